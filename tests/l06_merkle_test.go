package tests

import (
	"crypto/sha256"
	"math"
	"math/bits"
	"slices"
	"strings"
	"testing"

	"loop.example/g00233/impl"
)

// knownLeaves and knownRoots: the texts that logs by RFC 6962 are tested with, and the roots of their first one to eight.
var knownLeaves = []string{
	"", "\x00", "\x10", "\x20\x21", "\x30\x31", "\x40\x41\x42\x43", "\x50\x51\x52\x53\x54\x55\x56\x57",
	"\x60\x61\x62\x63\x64\x65\x66\x67\x68\x69\x6a\x6b\x6c\x6d\x6e\x6f",
}

var knownRoots = []string{
	"e3b0c44298fc1c149afbf4c8996fb92427ae41e4649b934ca495991b7852b855",
	"6e340b9cffb37a989ca544e6bb780a2c78901d3fb33738768511a30617afa01d",
	"fac54203e7cc696cf0dfcb42c92a1d9dbaf70ad9e621f4bd8d98662f00e3c125",
	"aeb6bcfe274b70a14fb067a5e5578264db0fa9b51af5e0ba159158f329e06e77",
	"d37ee418976dd95753c1c73862b9398fa2a2cf9b4ff0fdfe8b30cd95209614b7",
	"4e3bbb1f7b478dcfe71fb631631519a3bca12c9aefca1612bfce4c13a86264d4",
	"76e67dadbcdf1e10e1b74ddc608abd2f98dfb16fbce75277b5232a127f2087ef",
	"ddb89be403809e325750d3d263cd78929c2942b7942a34b77e122c9594a74c8c",
	"5dc9da79a70659a9ad559cb701ded9a2ab9d823aad2f4960cfe370eff4604328",
}

// treeSizes: small ones, those beside powers of 2, and those at the limit.
var treeSizes = []int{1, 2, 3, 4, 5, 6, 7, 8, 9, 11, 12, 15, 16, 17, 21, 31, 32, 33, 63, 64, 65, 100, 127, 128, 129, 192, 199, 200}

// notTreeSizes: how many texts no tree has.
var notTreeSizes = []int{0, -1, -2, -200, math.MinInt, 201, 202, 255, 256, 257, 1000, math.MaxInt}

func sumOf(s string) string {
	sum := sha256.Sum256([]byte(s))
	return string(sum[:])
}

func leafByModel(s string) string { return sumOf("\x00" + s) }

func nodeByModel(a, b string) string { return sumOf("\x01" + a + b) }

// leafTexts: no two are alike; some have no bytes, some bytes above 127, some many.
func leafTexts(n int) []string {
	l := make([]string, n)
	for i := range l {
		l[i] = strings.Repeat(string([]byte{byte(i)}), i)
	}
	return l
}

// alikeTexts: of each text there are many.
func alikeTexts(n int) []string {
	l := make([]string, n)
	for i := range l {
		l[i] = []string{"", "a", "\xff"}[i%7%3]
	}
	return l
}

// rootByModel pairs from the leaves up, and carries what has no fellow: no half is cut.
func rootByModel(l []string) string {
	if len(l) == 0 {
		return sumOf("")
	}
	row := make([]string, len(l))
	for i, s := range l {
		row[i] = leafByModel(s)
	}
	for len(row) > 1 {
		var above []string
		for i := 0; i+1 < len(row); i += 2 {
			above = append(above, nodeByModel(row[i], row[i+1]))
		}
		if len(row)%2 == 1 {
			above = append(above, row[len(row)-1])
		}
		row = above
	}
	return row[0]
}

// blockByModel is the i-th node so many levels above the leaves, whole or not.
func blockByModel(l []string, level, i int) string {
	return rootByModel(l[i<<level : min((i+1)<<level, len(l))])
}

// inPathByModel goes from the leaf up, and takes the fellow of each node that has one.
func inPathByModel(l []string, i int) []string {
	var path []string
	for level, last := 0, len(l)-1; last > 0; level, last = level+1, last>>1 {
		if i^1 <= last {
			path = append(path, blockByModel(l, level, i^1))
		}
		i >>= 1
	}
	return path
}

// growPathByModel goes up from the greatest node that ends where the beginning ends.
func growPathByModel(l []string, n int) []string {
	var path []string
	at, last, level := n-1, len(l)-1, 0
	for ; at%2 == 1; level++ {
		at, last = at>>1, last>>1
	}
	if at > 0 {
		path = append(path, blockByModel(l, level, at))
	}
	for ; last > 0; level++ {
		if at^1 <= last {
			path = append(path, blockByModel(l, level, at^1))
		}
		at, last = at>>1, last>>1
	}
	return path
}

// checkInByModel is the way of RFC 9162, 2.1.3.2, which goes by the bits of the places.
func checkInByModel(s string, i, n int, path []string, root string) bool {
	if i < 0 || i >= n || n > 200 {
		return false
	}
	at, last, got := i, n-1, leafByModel(s)
	for _, p := range path {
		if last == 0 {
			return false
		}
		if at%2 == 1 || at == last {
			got = nodeByModel(p, got)
			for at%2 == 0 && at != 0 {
				at, last = at>>1, last>>1
			}
		} else {
			got = nodeByModel(got, p)
		}
		at, last = at>>1, last>>1
	}
	return last == 0 && got == root
}

// checkGrowByModel is the way of RFC 9162, 2.1.4.2.
func checkGrowByModel(n, m int, a, b string, path []string) bool {
	if n == m {
		return n >= 0 && n <= 200 && a == b && len(path) == 0
	}
	if n < 1 || n > m || m > 200 {
		return false
	}
	if bits.OnesCount(uint(n)) == 1 {
		path = append([]string{a}, path...)
	}
	if len(path) == 0 {
		return false
	}
	at, last := n-1, m-1
	for at%2 == 1 {
		at, last = at>>1, last>>1
	}
	before, after := path[0], path[0]
	for _, p := range path[1:] {
		if last == 0 {
			return false
		}
		if at%2 == 1 || at == last {
			before, after = nodeByModel(p, before), nodeByModel(p, after)
			for at%2 == 0 && at != 0 {
				at, last = at>>1, last>>1
			}
		} else {
			after = nodeByModel(after, p)
		}
		at, last = at>>1, last>>1
	}
	return last == 0 && before == a && after == b
}

// spoiltPaths: what is near to path; of a path of no or one part, some of these are path itself.
func spoiltPaths(path []string) [][]string {
	some := strings.Repeat("p", 32)
	spoilt := [][]string{
		slices.Concat(path, []string{some}), slices.Concat([]string{some}, path),
		slices.Concat(path, []string{""}), slices.Concat([]string{""}, path),
		slices.Concat(path, path),
	}
	reversed := slices.Clone(path)
	slices.Reverse(reversed)
	spoilt = append(spoilt, reversed)
	for i, p := range path {
		with := func(parts ...string) { spoilt = append(spoilt, slices.Concat(path[:i], parts, path[i+1:])) }
		turned := []byte(p)
		turned[(7*i+31)%32] ^= 1 << (i % 8)
		with()
		with(p, p)
		with(string(turned))
		with("")
		with(p[:31])
		with(p[1:])
		with(p + "\x00")
		with("\x00" + p)
		with(p + p)
		with(impl.HexOf(p))
		if i > 0 {
			spoilt = append(spoilt, slices.Concat(path[:i-1], []string{p, path[i-1]}, path[i+1:]))
			moved := path[i-1] + p // as many bytes, cut elsewhere
			spoilt = append(spoilt, slices.Concat(path[:i-1], []string{moved[:31], moved[31:]}, path[i+1:]))
			spoilt = append(spoilt, slices.Concat(path[:i-1], []string{moved[:33], moved[33:]}, path[i+1:]))
		}
	}
	return append(spoilt, path[:len(path)/2], nil)
}

func wantRoot(t *testing.T, l []string, want string) {
	t.Helper()
	if got := impl.RootOf(l); got != want {
		t.Errorf("RootOf %d texts = %x; want %x", len(l), got, want)
	}
}

func wantParts(t *testing.T, what string, n, i int, got, want []string) {
	t.Helper()
	if !slices.Equal(got, want) {
		t.Errorf("%s of %d texts, %d = %x; want %x", what, n, i, got, want)
	}
}

func wantIn(t *testing.T, s string, i, n int, path []string, root string, want bool) {
	t.Helper()
	if got := impl.CheckIn(s, i, n, path, root); got != want {
		t.Errorf("CheckIn(%.20q, %d, %d, %x, %x) = %v", s, i, n, path, root, got)
	}
}

func wantInLikeModel(t *testing.T, s string, i, n int, path []string, root string) {
	t.Helper()
	wantIn(t, s, i, n, path, root, checkInByModel(s, i, n, path, root))
}

func wantGrow(t *testing.T, n, m int, a, b string, path []string, want bool) {
	t.Helper()
	if got := impl.CheckGrow(n, m, a, b, path); got != want {
		t.Errorf("CheckGrow(%d, %d, %x, %x, %x) = %v", n, m, a, b, path, got)
	}
}

func wantGrowLikeModel(t *testing.T, n, m int, a, b string, path []string) {
	t.Helper()
	wantGrow(t, n, m, a, b, path, checkGrowByModel(n, m, a, b, path))
}

// rootsOfBeginnings: of each number of first texts, none of them at place 0.
func rootsOfBeginnings(l []string) []string {
	roots := make([]string, len(l)+1)
	for n := range roots {
		roots[n] = rootByModel(l[:n])
	}
	return roots
}

func TestLeavesAndNodes(t *testing.T) {
	texts := []string{"", "a", "b", "ab", "\x00", "\x01", "\x00\x00", "\xff", "\x80\xff", "grüße", "a/b@v1.0.0", allBytes(), strings.Repeat("\xfe", 5000)}
	for n := range 140 {
		texts = append(texts, string(bytesOf(n)))
	}
	for i, s := range texts {
		if got := impl.LeafHash(s); got != leafByModel(s) || len(got) != 32 {
			t.Errorf("LeafHash(%.40q) = %x", s, got)
		}
		for _, other := range []string{"", "\x00", s, texts[0], texts[(i+1)%len(texts)], texts[(i*7+3)%len(texts)]} {
			if got := impl.NodeHash(s, other); got != nodeByModel(s, other) || len(got) != 32 {
				t.Errorf("NodeHash(%.40q, %.40q) = %x", s, other, got)
			}
		}
	}
}

func TestLeavesAreNoNodes(t *testing.T) {
	a, b := impl.LeafHash("a"), impl.LeafHash("b")
	for _, x := range []string{impl.LeafHash(a + b), impl.LeafHash("\x01" + a + b), impl.NodeHash(b, a), impl.NodeHash(a, a), impl.Digest([]byte(a + b))} {
		if x == impl.NodeHash(a, b) {
			t.Errorf("%x is of two texts, and of another thing", x)
		}
	}
	wantIn(t, a+b, 0, 1, nil, impl.RootOf([]string{"a", "b"}), false)
}

func TestKnownRoots(t *testing.T) {
	for n, digits := range knownRoots {
		if got := impl.HexOf(impl.RootOf(knownLeaves[:n])); got != digits {
			t.Errorf("the root of %d = %s; want %s", n, got, digits)
		}
	}
	wantRoot(t, nil, sumOf(""))
	wantRoot(t, []string{}, sumOf(""))
	wantRoot(t, []string{""}, sumOf("\x00"))
}

func TestRootsOfEachSize(t *testing.T) {
	for n := range impl.MaxLeaves + 1 {
		for _, l := range [][]string{leafTexts(n), alikeTexts(n), make([]string, n)} {
			wantRoot(t, l, rootByModel(l))
		}
	}
}

func TestRootsTellEachText(t *testing.T) {
	for _, n := range []int{1, 2, 3, 5, 8, 13, 200} {
		l := leafTexts(n)
		root := impl.RootOf(l)
		for i := range l {
			kept := l[i]
			l[i] += "\x80"
			if impl.RootOf(l) == root {
				t.Errorf("text %d of %d does not tell", i, n)
			}
			l[i] = kept
		}
	}
}

func TestTooManyLeaves(t *testing.T) {
	for _, n := range []int{201, 202, 255, 256, 257, 400, 512, 1000} {
		l := leafTexts(n)
		wantRoot(t, l, "")
		for _, i := range []int{-1, 0, 1, 100, 127, 128, 199, 200, n - 1, n} {
			wantParts(t, "InPath", n, i, impl.InPath(l, i), nil)
			wantParts(t, "GrowPath", n, i, impl.GrowPath(l, i), nil)
		}
		root := rootByModel(l)
		for _, i := range []int{0, 128, n - 1} {
			wantIn(t, l[i], i, n, inPathByModel(l, i), root, false)
		}
		for _, i := range []int{1, 128, 200, n - 1} {
			wantGrow(t, i, n, rootByModel(l[:i]), root, growPathByModel(l, i), false)
		}
		wantGrow(t, n, n, root, root, nil, false)
		wantGrow(t, n, n, "", "", nil, false)
	}
	l := leafTexts(201)
	for _, n := range []int{199, 200} {
		wantRoot(t, l[:n], rootByModel(l[:n]))
		wantIn(t, l[n-1], n-1, n, impl.InPath(l[:n], n-1), impl.RootOf(l[:n]), true)
		wantGrow(t, n-1, n, impl.RootOf(l[:n-1]), impl.RootOf(l[:n]), impl.GrowPath(l[:n], n-1), true)
		wantGrow(t, n, n, impl.RootOf(l[:n]), impl.RootOf(l[:n]), nil, true)
	}
}

// Promise 6: each text has its path to the root.
func TestEachTextHasItsPath(t *testing.T) {
	for _, n := range treeSizes {
		for _, l := range [][]string{leafTexts(n), alikeTexts(n)} {
			root := impl.RootOf(l)
			for i, s := range l {
				path := impl.InPath(l, i)
				wantParts(t, "InPath", n, i, path, inPathByModel(l, i))
				wantIn(t, s, i, n, path, root, true)
			}
		}
	}
}

// Promise 6: each beginning has its path to the root.
func TestEachBeginningHasItsPath(t *testing.T) {
	for _, m := range treeSizes {
		for _, l := range [][]string{leafTexts(m), alikeTexts(m)} {
			roots := rootsOfBeginnings(l)
			for n := 1; n < m; n++ {
				path := impl.GrowPath(l, n)
				wantParts(t, "GrowPath", m, n, path, growPathByModel(l, n))
				wantGrow(t, n, m, roots[n], roots[m], path, true)
			}
		}
	}
}

func TestPathsByHand(t *testing.T) {
	l := []string{"a", "b", "c", "d", "e"}
	a, b, c, d, e := leafByModel("a"), leafByModel("b"), leafByModel("c"), leafByModel("d"), leafByModel("e")
	ab, cd := nodeByModel(a, b), nodeByModel(c, d)
	abcd := nodeByModel(ab, cd)
	wantRoot(t, l, nodeByModel(abcd, e))
	wantParts(t, "InPath", 1, 0, impl.InPath(l[:1], 0), nil)
	wantParts(t, "InPath", 2, 0, impl.InPath(l[:2], 0), []string{b})
	wantParts(t, "InPath", 2, 1, impl.InPath(l[:2], 1), []string{a})
	wantParts(t, "InPath", 3, 2, impl.InPath(l[:3], 2), []string{ab})
	wantParts(t, "InPath", 5, 0, impl.InPath(l, 0), []string{b, cd, e})
	wantParts(t, "InPath", 5, 3, impl.InPath(l, 3), []string{c, ab, e})
	wantParts(t, "InPath", 5, 4, impl.InPath(l, 4), []string{abcd})
	wantParts(t, "GrowPath", 2, 1, impl.GrowPath(l[:2], 1), []string{b})
	wantParts(t, "GrowPath", 3, 1, impl.GrowPath(l[:3], 1), []string{b, c})
	wantParts(t, "GrowPath", 3, 2, impl.GrowPath(l[:3], 2), []string{c})
	wantParts(t, "GrowPath", 4, 3, impl.GrowPath(l[:4], 3), []string{c, d, ab})
	wantParts(t, "GrowPath", 5, 1, impl.GrowPath(l, 1), []string{b, cd, e})
	wantParts(t, "GrowPath", 5, 2, impl.GrowPath(l, 2), []string{cd, e})
	wantParts(t, "GrowPath", 5, 3, impl.GrowPath(l, 3), []string{c, d, ab, e})
	wantParts(t, "GrowPath", 5, 4, impl.GrowPath(l, 4), []string{e})
}

// A beginning that is a whole subtree is not in its path: its root is the one that is handed in.
func TestWholeBeginnings(t *testing.T) {
	l := leafTexts(impl.MaxLeaves)
	all := impl.RootOf(l)
	for n := 1; n <= 128; n *= 2 {
		root := impl.RootOf(l[:n])
		path := impl.GrowPath(l, n)
		if slices.Contains(path, root) {
			t.Errorf("the path from %d has the root of the beginning", n)
		}
		wantGrow(t, n, len(l), root, all, path, true)
		wantGrow(t, n, len(l), root, all, slices.Concat([]string{root}, path), false)
		wantGrow(t, n, len(l), all, all, path, false)
		wantGrow(t, n, len(l), impl.NodeHash(root, root), all, path, false)
		wantGrow(t, n, n+1, root, impl.NodeHash(root, all), []string{all}, true)
		wantGrow(t, n, n+1, root, impl.NodeHash(all, root), []string{all}, false)
		for _, beside := range []int{n - 1, n + 1} {
			if beside < 1 || bits.OnesCount(uint(beside)) == 1 {
				continue
			}
			path := impl.GrowPath(l, beside)
			wantGrow(t, beside, len(l), impl.RootOf(l[:beside]), all, path, true)
			wantGrow(t, beside, len(l), impl.RootOf(l[:beside]), all, path[1:], false)
		}
	}
}

func TestPlacesWithoutPath(t *testing.T) {
	for _, n := range append([]int{0}, treeSizes...) {
		l := leafTexts(n)
		for _, i := range []int{-1, -2, math.MinInt, n, n + 1, 201, math.MaxInt} {
			wantParts(t, "InPath", n, i, impl.InPath(l, i), nil)
			wantParts(t, "GrowPath", n, i, impl.GrowPath(l, i), nil)
		}
		wantParts(t, "GrowPath", n, 0, impl.GrowPath(l, 0), nil)
	}
	wantParts(t, "InPath", 0, 0, impl.InPath(nil, 0), nil)
	wantParts(t, "GrowPath", 0, 0, impl.GrowPath(nil, 0), nil)
}

func TestOtherPlacesAreNotTold(t *testing.T) {
	for _, n := range []int{1, 2, 3, 4, 5, 7, 8, 13, 64, 65, 200} {
		l := leafTexts(n)
		root := impl.RootOf(l)
		for i := 0; i < n; i += 1 + n/13 {
			path := impl.InPath(l, i)
			for at := -2; at < n+2; at++ {
				wantIn(t, l[i], at, n, path, root, at == i)
			}
			for _, at := range []int{math.MinInt, math.MaxInt} {
				wantIn(t, l[i], at, n, path, root, false)
			}
			for many := range impl.MaxLeaves + 1 {
				wantInLikeModel(t, l[i], i, many, path, root)
			}
			for _, many := range notTreeSizes {
				wantIn(t, l[i], i, many, path, root, false)
			}
		}
	}
}

func TestOtherTextsAndRootsAreNotTold(t *testing.T) {
	for _, n := range []int{1, 2, 3, 5, 8, 21, 200} {
		l := leafTexts(n)
		root := impl.RootOf(l)
		for i := 0; i < n; i += 1 + n/13 {
			path := impl.InPath(l, i)
			for _, s := range []string{l[i] + "\x00", "\x00" + l[i], l[i] + "\xff", impl.LeafHash(l[i]), root, l[(i+1)%n] + "x"} {
				wantIn(t, s, i, n, path, root, false)
			}
			for _, r := range []string{"", root[:31], root + "\x00", impl.HexOf(root), impl.RootOf(nil), impl.NodeHash(root, root), impl.RootOf(l[:n-1])} {
				wantIn(t, l[i], i, n, path, r, false)
			}
			for at := range 32 {
				turned := []byte(root)
				turned[at] ^= 128
				wantIn(t, l[i], i, n, path, string(turned), false)
			}
		}
	}
}

func TestSpoiltPathsOfTexts(t *testing.T) {
	for _, n := range []int{1, 2, 3, 4, 5, 6, 7, 8, 9, 16, 33, 127, 129, 200} {
		l := leafTexts(n)
		root := impl.RootOf(l)
		for _, i := range []int{0, 1, n / 2, n - 2, n - 1} {
			if i < 0 || i >= n {
				continue
			}
			path := impl.InPath(l, i)
			for _, other := range spoiltPaths(path) {
				wantIn(t, l[i], i, n, other, root, slices.Equal(other, path))
				wantInLikeModel(t, l[i], i, n, other, root)
			}
		}
	}
}

func TestSpoiltPathsOfBeginnings(t *testing.T) {
	for _, m := range []int{2, 3, 4, 5, 6, 7, 8, 9, 16, 33, 127, 129, 200} {
		l := leafTexts(m)
		roots := rootsOfBeginnings(l)
		for _, n := range []int{1, 2, 3, m / 2, m/2 + 1, m - 2, m - 1} {
			if n < 1 || n >= m {
				continue
			}
			path := impl.GrowPath(l, n)
			for _, other := range spoiltPaths(path) {
				wantGrow(t, n, m, roots[n], roots[m], other, slices.Equal(other, path))
				wantGrowLikeModel(t, n, m, roots[n], roots[m], other)
			}
		}
	}
}

func TestOtherBeginningsAreNotTold(t *testing.T) {
	l := leafTexts(impl.MaxLeaves)
	roots := rootsOfBeginnings(l)
	for _, m := range []int{2, 3, 5, 8, 9, 100, 128, 129, 200} {
		for n := 1; n < m; n += 1 + m/13 {
			a, b := roots[n], roots[m]
			path := impl.GrowPath(l[:m], n)
			for other := range impl.MaxLeaves + 1 {
				wantGrowLikeModel(t, other, m, a, b, path)
				wantGrowLikeModel(t, n, other, a, b, path)
				wantGrow(t, n, m, roots[other], b, path, other == n)
				wantGrow(t, n, m, a, roots[other], path, other == m)
			}
			for _, other := range notTreeSizes {
				wantGrow(t, other, m, a, b, path, false)
				wantGrow(t, n, other, a, b, path, false)
				wantGrow(t, n, other, a, b, nil, false)
			}
			wantGrow(t, m, n, b, a, path, false)
			wantGrow(t, m, n, a, b, path, false)
			wantGrow(t, n, m, b, a, path, false)
			for _, r := range []string{"", a[:31], a + "\x00", impl.HexOf(a), b} {
				wantGrow(t, n, m, r, b, path, false)
			}
			for _, r := range []string{"", b[:31], b + "\x00", impl.HexOf(b), a} {
				wantGrow(t, n, m, a, r, path, false)
			}
		}
	}
}

func TestAsManyAsBefore(t *testing.T) {
	l := leafTexts(impl.MaxLeaves)
	for n := range len(l) + 1 {
		root, other := impl.RootOf(l[:n]), impl.RootOf(l[:(n+1)%len(l)])
		wantGrow(t, n, n, root, root, nil, true)
		wantGrow(t, n, n, root, root, []string{}, true)
		wantGrow(t, n, n, root, other, nil, false)
		wantGrow(t, n, n, other, root, nil, false)
		wantGrow(t, n, n, root, "", nil, false)
		wantGrow(t, n, n, root, root, []string{""}, false)
		wantGrow(t, n, n, root, root, []string{root}, false)
		wantGrow(t, n, n, root, root, impl.InPath(l, 7), false)
	}
	for _, n := range notTreeSizes {
		if n != 0 {
			wantGrow(t, n, n, knownRoots[0], knownRoots[0], nil, false)
			wantGrow(t, n, n, "", "", nil, false)
		}
	}
}

// Of no texts no beginning is told, but that of none, by the same root.
func TestFromNothing(t *testing.T) {
	none := impl.RootOf(nil)
	for _, m := range treeSizes {
		l := leafTexts(m)
		root := impl.RootOf(l)
		for _, path := range [][]string{nil, {root}, {none}, {none, root}, impl.InPath(l, 0), impl.GrowPath(l, 1)} {
			wantGrow(t, 0, m, none, root, path, false)
			wantGrow(t, 0, m, root, root, path, false)
			wantGrow(t, 0, m, "", root, path, false)
			wantGrow(t, m, 0, root, none, path, false)
			wantIn(t, "", 0, 0, path, root, false)
			wantIn(t, "", 0, 0, path, none, false)
		}
	}
	wantGrow(t, 0, 0, none, none, nil, true)
}

// The document asks what comes of the parts, not how many bytes a part has.
func TestPartsThatHaveNot32Bytes(t *testing.T) {
	leaf := leafByModel("s")
	for _, p := range []string{"", "p", strings.Repeat("p", 31), strings.Repeat("\xff", 33), strings.Repeat("p", 1000)} {
		wantIn(t, "s", 0, 2, []string{p}, nodeByModel(leaf, p), true)
		wantIn(t, "s", 1, 2, []string{p}, nodeByModel(p, leaf), true)
		wantIn(t, "s", 0, 2, []string{p}, nodeByModel(p, leaf), p == "")
		wantIn(t, "s", 2, 3, []string{p}, nodeByModel(p, leaf), true)
		wantGrow(t, 1, 2, leaf, nodeByModel(leaf, p), []string{p}, true)
		wantGrow(t, 1, 2, leaf, nodeByModel(leaf, p+"p"), []string{p}, false)
		wantGrow(t, 3, 4, nodeByModel(p, leaf), nodeByModel(p, nodeByModel(leaf, p)), []string{leaf, p, p}, true)
	}
}

// What is missing at the lower end of a path does not stand for a text of no bytes.
func TestMissingPartsAreNotEmptyOnes(t *testing.T) {
	p := leafByModel("p")
	wantIn(t, "", 0, 2, nil, "", false)
	wantIn(t, "", 1, 2, nil, "", false)
	wantIn(t, "", 0, 3, []string{p}, nodeByModel("", p), false)
	wantIn(t, "", 3, 4, []string{p}, nodeByModel(p, ""), false)
	wantGrow(t, 1, 2, "", "", nil, false)
	wantGrow(t, 2, 3, "", "", nil, false)
	wantGrow(t, 1, 3, "", nodeByModel("", p), []string{p}, false)
	wantGrow(t, 3, 4, "", "", nil, false)
	wantGrow(t, 3, 4, nodeByModel(p, ""), nodeByModel(p, ""), []string{p}, false)
	wantGrow(t, 3, 4, nodeByModel(p, ""), nodeByModel(p, nodeByModel("", p)), []string{p, p}, false)
}

// Any numbers and any parts are answered as the ways of RFC 9162 answer them.
func TestSmallTreesLikeModel(t *testing.T) {
	l := alikeTexts(9)
	var parts [][]string
	for m := 1; m <= 9; m++ {
		for i := range m {
			parts = append(parts, inPathByModel(l[:m], i))
			if i > 0 {
				parts = append(parts, growPathByModel(l[:m], i))
			}
		}
	}
	roots := rootsOfBeginnings(l)
	for n := -1; n <= 10; n++ {
		for m := -1; m <= 10; m++ {
			for _, path := range parts {
				for i, a := range roots {
					wantGrowLikeModel(t, n, m, a, roots[max(0, min(m, 9))], path)
					wantInLikeModel(t, l[i%3], n, m, path, a)
				}
			}
		}
	}
}

// spared gives l with spare room behind it, which is filled with more.
func spared(l []string, more ...string) []string {
	all := slices.Concat(l, more)
	return all[:len(l):len(all)]
}

func TestTreesLeaveTheirListsAlone(t *testing.T) {
	for _, n := range []int{0, 1, 2, 3, 4, 5, 7, 8, 199, 200} {
		l := spared(leafTexts(n), "spare", "room", "behind", "it", "all", "of", "it")
		kept := slices.Clone(l[:cap(l)])
		wantRoot(t, l, rootByModel(l))
		for i := -1; i <= n+1; i++ {
			impl.InPath(l, i)
			impl.GrowPath(l, i)
		}
		if n > 1 {
			wantParts(t, "InPath", n, n-1, impl.InPath(l, n-1), inPathByModel(l, n-1))
			wantParts(t, "GrowPath", n, n-1, impl.GrowPath(l, n-1), growPathByModel(l, n-1))
		}
		if !slices.Equal(l[:cap(l)], kept) {
			t.Errorf("%d texts, or the room behind them, were written into", n)
		}
	}
}

func TestChecksLeaveTheirPathsAlone(t *testing.T) {
	l := leafTexts(13)
	root := impl.RootOf(l)
	for i := range l {
		in := spared(impl.InPath(l, i), "spare", "room")
		grow := spared(impl.GrowPath(l, i), "spare", "room")
		keptIn, keptGrow := slices.Clone(in[:cap(in)]), slices.Clone(grow[:cap(grow)])
		wantIn(t, l[i], i, 13, in, root, true)
		wantIn(t, "other", i, 13, in, root, false)
		wantIn(t, l[i], i, 13, in[:len(in)-1], root, false)
		wantGrow(t, i, 13, impl.RootOf(l[:i]), root, grow, i > 0)
		wantGrow(t, i, 13, root, root, grow, false)
		if !slices.Equal(in[:cap(in)], keptIn) || !slices.Equal(grow[:cap(grow)], keptGrow) {
			t.Errorf("a path of %d, or the room behind it, was written into", i)
		}
		// A part that stands in the room behind a path is none of it.
		whole := impl.InPath(l, i)
		wantIn(t, l[i], i, 13, whole[:len(whole)-1:cap(whole)], root, false)
	}
}

func TestPathsShareNothing(t *testing.T) {
	const text = "a text of thirty-two bytes, whole"
	l := make([]string, 13)
	for i := range l {
		l[i] = strings.Clone(text)
	}
	for i := range l {
		for _, path := range []func([]string, int) []string{impl.InPath, impl.GrowPath} {
			first, second := path(l, i), path(l, i)
			kept := slices.Clone(second)
			for _, p := range first {
				if slices.ContainsFunc(l, func(s string) bool { return within(p, s) }) {
					t.Errorf("a part of the path of %d is a piece of a text", i)
				}
			}
			for at := range first[:cap(first)] {
				first[:cap(first)][at] = "other"
			}
			if !slices.Equal(second, kept) || !slices.Equal(path(l, i), kept) {
				t.Errorf("the path of %d hangs on another one", i)
			}
		}
		if l[i] != text {
			t.Errorf("text %d was written into: %q", i, l[i])
		}
	}
}
