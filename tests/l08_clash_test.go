package tests

import (
	"encoding/json"
	"math"
	"os"
	"os/exec"
	"path/filepath"
	"slices"
	"strconv"
	"strings"
	"testing"

	"loop.example/g00233/impl"
)

// weakBuild is set in a build whose digests are weak.
const weakBuild = "WEAK_DIGEST"

// weakDigest tells texts by the last two bits alone: of whole digests no clash is known, of these a quarter of all pairs is one.
const weakDigest = `
func Digest(b []byte) string {
	weak := make([]byte, digestSize)
	weak[digestSize-1] = wholeDigest(b)[0] % 4
	return string(weak)
}
`

// notKs: how many bytes no clash has.
var notKs = []int{-1, -2, -32, -33, math.MinInt, math.MinInt + 1, 33, 34, 64, 255, 256, 257, 1 << 32, 1<<32 + 1, math.MaxInt}

// clashTexts: no two are alike; some are the beginning of others, some begin as what is digested does.
var clashTexts = []string{
	"", "\x00", "\x01", "\x00\x00", "\x00\x01", "\x01\x00", "a", "b", "ab", "ba", "a\x00", "\x00a", "\x01a",
	strings.Repeat("x", 55), strings.Repeat("x", 56), strings.Repeat("x", 64), strings.Repeat("x", 200), "\xff",
}

func isClashByModel(a, b string, k int) bool {
	return k >= 0 && k <= 32 && a != b && strings.HasPrefix(sumOf(b), sumOf(a)[:k])
}

func cutByPowers(n int) int {
	k := 1
	for 2*k < n {
		k *= 2
	}
	return k
}

// parting: two texts, and how they were come to: 'f' and 'r' for a first part and a rest, then 'l' or 'n' for a leaf or a node.
type parting struct{ a, b, way string }

func partingByModel(l, m []string, root func([]string) string) parting {
	if len(l) == 1 {
		return parting{"\x00" + l[0], "\x00" + m[0], "l"}
	}
	k := cutByPowers(len(l))
	p := parting{"\x01" + root(l[:k]) + root(l[k:]), "\x01" + root(m[:k]) + root(m[k:]), "n"}
	if p.a != p.b {
		return p
	}
	part, below := "r", parting{}
	if !slices.Equal(l[:k], m[:k]) {
		part, below = "f", partingByModel(l[:k], m[:k], root)
	} else {
		below = partingByModel(l[k:], m[k:], root)
	}
	below.way = part + below.way
	return below
}

func wantIsClash(t *testing.T, a, b string, k int, want bool) {
	t.Helper()
	if impl.IsClash(a, b, k) != want || impl.IsClash(b, a, k) != want {
		t.Errorf("IsClash of %q and %q at %d is not %v", a, b, k, want)
	}
}

func wantClashOf(t *testing.T, l, m []string, a, b string, same bool) {
	t.Helper()
	gotA, gotB, gotSame := impl.Clash(l, m)
	if gotA != a || gotB != b || gotSame != same {
		t.Errorf("Clash of %d and %d texts = %q, %q, %v; want %q, %q, %v", len(l), len(m), gotA, gotB, gotSame, a, b, same)
	}
}

// wantPart: the lists part both ways round, at what the model tells; their roots are not the same.
func wantPart(t *testing.T, l, m []string) {
	t.Helper()
	p := partingByModel(l, m, rootByModel)
	wantClashOf(t, l, m, p.a, p.b, false)
	wantClashOf(t, m, l, p.b, p.a, false)
	if p.a == p.b || sumOf(p.a) != rootByModel(l) || sumOf(p.b) != rootByModel(m) || impl.RootOf(l) == impl.RootOf(m) {
		t.Errorf("%q and %q are not what the roots of %d texts each are of", p.a, p.b, len(l))
	}
	wantIsClash(t, p.a, p.b, 32, false)
}

func wantNoClash(t *testing.T, l, m []string) {
	t.Helper()
	wantClashOf(t, l, m, "", "", false)
	wantClashOf(t, m, l, "", "", false)
}

// changed gives l with other texts at these places.
func changed(l []string, places ...int) []string {
	other := slices.Clone(l)
	for _, i := range places {
		other[i] += "\x80"
	}
	return other
}

// listsOf: all lists of up to so many of these texts.
func listsOf(texts []string, most int) [][]string {
	lists, last := [][]string{nil}, [][]string{nil}
	for range most {
		var longer [][]string
		for _, l := range last {
			for _, s := range texts {
				longer = append(longer, append(slices.Clone(l), s))
			}
		}
		lists, last = append(lists, longer...), longer
	}
	return lists
}

func TestNoBytesClash(t *testing.T) {
	for i, a := range clashTexts {
		for j, b := range clashTexts {
			wantIsClash(t, a, b, 0, i != j)
		}
	}
}

func TestClashesOfEachLength(t *testing.T) {
	for _, a := range clashTexts {
		for _, b := range clashTexts {
			for k := -2; k <= 35; k++ {
				wantIsClash(t, a, b, k, isClashByModel(a, b, k))
			}
		}
	}
	wantIsClash(t, "a", "b", 1, false)
	wantIsClash(t, "a", "b", 32, false)
}

func TestATextDoesNotClashWithItself(t *testing.T) {
	for _, s := range clashTexts {
		for k := -2; k <= 35; k++ {
			wantIsClash(t, s, s, k, false)
			wantIsClash(t, s, strings.Clone(s), k, false)
		}
		for _, k := range notKs {
			wantIsClash(t, s, s, k, false)
		}
	}
}

func TestWrongLengthsOfClashes(t *testing.T) {
	for _, k := range notKs {
		for i, a := range clashTexts[1:] {
			wantIsClash(t, a, clashTexts[i], k, false)
		}
	}
}

// alikeBytes is how many bytes two digests begin with alike.
func alikeBytes(a, b string) int {
	n := 0
	for n < len(a) && a[n] == b[n] {
		n++
	}
	return n
}

// pairsOfTwoBytes: of each number of bytes, texts of two bytes whose digests begin with just so many alike.
func pairsOfTwoBytes() map[int][2]string {
	texts := make([]string, 0, 65536)
	for i := range 65536 {
		texts = append(texts, string([]byte{byte(i >> 8), byte(i)}))
	}
	sums := map[string]string{}
	for _, s := range texts {
		sums[s] = sumOf(s)
	}
	slices.SortFunc(texts, func(a, b string) int { return strings.Compare(sums[a], sums[b]) })
	pairs := map[int][2]string{0: {texts[0], texts[len(texts)-1]}}
	for i, s := range texts[1:] {
		pairs[alikeBytes(sums[texts[i]], sums[s])] = [2]string{texts[i], s}
	}
	return pairs
}

func TestClashesOfSomeBytes(t *testing.T) {
	pairs := pairsOfTwoBytes()
	for n := range 4 {
		p, found := pairs[n]
		if !found {
			t.Fatalf("no texts clash at %d bytes and no more", n)
		}
		for k := -2; k <= 35; k++ {
			wantIsClash(t, p[0], p[1], k, k >= 0 && k <= n)
		}
	}
}

func TestClashesByHand(t *testing.T) {
	l := []string{"a", "b", "c", "d", "e", "a", "a", "h"}
	leaf := make([]string, len(l))
	for i, s := range l {
		leaf[i] = leafByModel(s)
	}
	x := leafByModel("x")
	ab, cd := nodeByModel(leaf[0], leaf[1]), nodeByModel(leaf[2], leaf[3])
	ea, ah := nodeByModel(leaf[4], leaf[5]), nodeByModel(leaf[6], leaf[7])
	abcd, eaah := nodeByModel(ab, cd), nodeByModel(ea, ah)
	for n, c := range map[int]struct{ same, last string }{
		1: {"\x00a", "\x00x"},
		2: {"\x01" + leaf[0] + leaf[1], "\x01" + leaf[0] + x},
		3: {"\x01" + ab + leaf[2], "\x01" + ab + x},
		4: {"\x01" + ab + cd, "\x01" + ab + nodeByModel(leaf[2], x)},
		5: {"\x01" + abcd + leaf[4], "\x01" + abcd + x},
		6: {"\x01" + abcd + ea, "\x01" + abcd + nodeByModel(leaf[4], x)},
		7: {"\x01" + abcd + nodeByModel(ea, leaf[6]), "\x01" + abcd + nodeByModel(ea, x)},
		8: {"\x01" + abcd + eaah, "\x01" + abcd + nodeByModel(ea, nodeByModel(leaf[6], x))},
	} {
		m := slices.Clone(l[:n])
		m[n-1] = "x"
		wantClashOf(t, l[:n], m, c.same, c.last, false)
		wantClashOf(t, m, l[:n], c.last, c.same, false)
	}
	wantClashOf(t, []string{"a", "b"}, []string{"x", "b"}, "\x01"+leaf[0]+leaf[1], "\x01"+x+leaf[1], false)
	wantClashOf(t, []string{"a", "b"}, []string{"b", "a"}, "\x01"+leaf[0]+leaf[1], "\x01"+leaf[1]+leaf[0], false)
	wantClashOf(t, l[:3], []string{"x", "b", "c"}, "\x01"+ab+leaf[2], "\x01"+nodeByModel(x, leaf[1])+leaf[2], false)
	wantClashOf(t, l[:5], []string{"a", "b", "c", "x", "x"}, "\x01"+abcd+leaf[4], "\x01"+nodeByModel(ab, nodeByModel(leaf[2], x))+x, false)
}

// Promise 8: unlike lists, as long, part at two unlike texts.
func TestListsThatDifferInOneText(t *testing.T) {
	for _, n := range []int{1, 2, 3, 4, 5, 6, 7, 8, 9, 13, 16, 17} {
		for _, l := range [][]string{leafTexts(n), alikeTexts(n), make([]string, n)} {
			for i := range l {
				wantPart(t, l, changed(l, i))
			}
		}
	}
}

func TestListsThatDifferInSeveralTexts(t *testing.T) {
	for _, n := range []int{2, 3, 4, 5, 8, 9} {
		for _, l := range [][]string{leafTexts(n), alikeTexts(n), make([]string, n)} {
			for i := range l {
				for j := range i {
					wantPart(t, l, changed(l, j, i))
				}
			}
			every := changed(l)
			for i := range every {
				every[i] += "z"
			}
			wantPart(t, l, every)
		}
	}
	l := leafTexts(8)
	turned := slices.Clone(l)
	slices.Reverse(turned)
	wantPart(t, l, turned)
	wantPart(t, l, slices.Concat(l[4:], l[:4])) // the same parts, the other way round
}

// All lists of few texts are held against each other.
func TestClashesOfAllSmallLists(t *testing.T) {
	lists := listsOf([]string{"", "\x00", "\x01"}, 3)
	for i, l := range lists {
		for j, m := range lists {
			if i == j || len(l) != len(m) {
				wantNoClash(t, l, m)
			} else {
				wantPart(t, l, m)
			}
		}
	}
}

func TestTheLimitOfClashes(t *testing.T) {
	for _, n := range []int{199, 200} {
		for _, l := range [][]string{leafTexts(n), alikeTexts(n), make([]string, n)} {
			for _, i := range []int{0, 1, 63, 64, 99, 100, 127, 128, n - 2, n - 1} {
				wantPart(t, l, changed(l, i))
			}
			wantPart(t, l, changed(l, 0, n/2, n-1))
			wantNoClash(t, l, slices.Clone(l))
		}
	}
	for _, n := range []int{201, 202, 255, 256, 257, 400, 1000} {
		l := leafTexts(n)
		for _, i := range []int{0, n / 2, n - 1} {
			wantNoClash(t, l, changed(l, i))
		}
		wantNoClash(t, l, changed(l, 0, n/2, n-1))
		wantNoClash(t, l, slices.Clone(l))
		wantNoClash(t, l, l[:200])
		wantNoClash(t, l, nil)
	}
	for _, n := range treeSizes {
		l := leafTexts(n)
		wantPart(t, l, changed(l, n/3))
	}
}

func TestListsOfOneText(t *testing.T) {
	for i, a := range clashTexts {
		for j, b := range clashTexts {
			if i != j {
				wantClashOf(t, []string{a}, []string{b}, "\x00"+a, "\x00"+b, false)
			}
		}
	}
}

// What is cut elsewhere, or would pass for a leaf or a node, is another list.
func TestTextsThatPassForOthers(t *testing.T) {
	p, q := leafByModel("p"), leafByModel("q")
	for _, c := range [][2][]string{
		{{"a", "b"}, {"ab", ""}}, {{"a", "b"}, {"", "ab"}}, {{"", "a", ""}, {"", "", "a"}}, {{"a", "b", "c", "d"}, {"ab", "", "cd", ""}},
		{{"\x00p"}, {"p"}}, {{"\x01" + p + q}, {p + q}}, {{"p", "q"}, {p, q}}, {{"p", "q"}, {"\x00p", "\x00q"}}, {{"\x01", "\x00"}, {"\x00", "\x01"}},
		{{p + q, ""}, {"\x01" + p + q, ""}}, {{""}, {"\x00"}}, {{""}, {"\x01"}}, {{"", ""}, {"", "\x00"}}, {{"", ""}, {"\x01", ""}},
	} {
		wantPart(t, c[0], c[1])
	}
	wantNoClash(t, []string{"p", "q"}, []string{"\x01" + p + q})
	wantNoClash(t, []string{"p", "q"}, []string{p + q})
}

func TestListsThatAreTheSame(t *testing.T) {
	for n := range impl.MaxLeaves + 2 {
		l := leafTexts(n)
		wantNoClash(t, l, l)
		wantNoClash(t, l, leafTexts(n))
	}
	for _, l := range [][]string{nil, {}, {""}, {"a"}, {"\x00"}, {"\x01"}, {"", ""}, {"a", "a", "a"}, {"a", "b", "c", "d", "e"}} {
		wantNoClash(t, l, l)
		wantNoClash(t, l, slices.Clone(l))
	}
	wantNoClash(t, nil, []string{})
}

func TestListsThatAreNotAsLong(t *testing.T) {
	l := leafTexts(203)
	for _, n := range []int{0, 1, 2, 3, 4, 5, 7, 8, 127, 128, 198, 199, 200, 201} {
		wantNoClash(t, l[:n], l[:n+1])
		wantNoClash(t, l[:n], l[:n+2])
		wantNoClash(t, l[:n], append(slices.Clone(l[:n]), ""))
		wantNoClash(t, l[:n], l[1:n+2])
	}
	for _, n := range []int{1, 2, 3, 8, 200, 201} {
		wantNoClash(t, nil, l[:n])
		wantNoClash(t, []string{}, make([]string, n))
	}
}

func TestClashesLeaveTheirListsAlone(t *testing.T) {
	for _, n := range []int{0, 1, 2, 3, 4, 5, 8, 199, 200, 201} {
		plain := leafTexts(n)
		others := [][]string{plain, leafTexts(n + 1)}
		for i := range n {
			if i < 4 || i > n-4 {
				others = append(others, changed(plain, i))
			}
		}
		for _, other := range others {
			l, m := spared(plain, "spare", "room", "behind"), spared(other, "other", "room", "behind")
			keptL, keptM := slices.Clone(l[:cap(l)]), slices.Clone(m[:cap(m)])
			a, b, same := impl.Clash(l, m)
			wantClashOf(t, plain, other, a, b, same) // what is behind the lists is not read
			if !slices.Equal(l[:cap(l)], keptL) || !slices.Equal(m[:cap(m)], keptM) {
				t.Errorf("lists of %d texts, or the room behind them, were written into", n)
			}
		}
	}
}

func TestTheRoomBehindUnlikeListsIsNotRead(t *testing.T) {
	l, m := []string{"a", "b", "c", "d"}, []string{"a", "b", "x", "y"}
	for n := range 3 {
		wantNoClash(t, l[:n], m[:n])
	}
	wantPart(t, l[:3], m[:3])
	wantNoClash(t, l[:2], m[:3])
}

func TestClashesShareNoText(t *testing.T) {
	for _, n := range []int{1, 2, 3, 5, 8} {
		l := make([]string, n)
		for i := range l {
			l[i] = strings.Repeat(strconv.Itoa(i), 40)
		}
		m := changed(l, n-1)
		a, b, _ := impl.Clash(l, m)
		for _, s := range slices.Concat(l, m) {
			if within(a, s) || within(b, s) {
				t.Errorf("a text of a clash of %d texts is a piece of what was given", n)
			}
		}
		if within(a, b) || within(b, a) {
			t.Errorf("the texts of a clash of %d texts are pieces of one", n)
		}
	}
}

// overWeakDigests is true in a build whose digests are weak. Elsewhere it runs the test that calls it in such a build.
func overWeakDigests(t *testing.T) bool {
	t.Helper()
	if os.Getenv(weakBuild) != "" {
		return true
	}
	whole, err := filepath.Abs("../impl/l02_sha.go")
	if err != nil {
		t.Fatal(err)
	}
	source, err := os.ReadFile(whole)
	if err != nil {
		t.Fatal(err)
	}
	weak, overlay := filepath.Join(t.TempDir(), "weak.go"), filepath.Join(t.TempDir(), "overlay.json")
	replaced, err := json.Marshal(map[string]map[string]string{"Replace": {whole: weak}})
	if err != nil {
		t.Fatal(err)
	}
	text := strings.Replace(string(source), "func Digest(", "func wholeDigest(", 1) + weakDigest
	for name, content := range map[string]string{weak: text, overlay: string(replaced)} {
		if err := os.WriteFile(name, []byte(content), 0o600); err != nil {
			t.Fatal(err)
		}
	}
	again := exec.Command("go", "test", "-overlay", overlay, "-count", "1", "-run", "^"+t.Name()+"$", ".")
	again.Env = append(os.Environ(), weakBuild+"=1")
	if told, err := again.CombinedOutput(); err != nil {
		t.Errorf("over weak digests: %v\n%s", err, told)
	}
	return false
}

// wantPartOverWeak tells how the lists, which are unlike and as long, parted.
func wantPartOverWeak(t *testing.T, l, m []string) string {
	t.Helper()
	p := partingByModel(l, m, impl.RootOf)
	same := impl.RootOf(l) == impl.RootOf(m)
	wantClashOf(t, l, m, p.a, p.b, same)
	wantClashOf(t, m, l, p.b, p.a, same)
	if p.a == p.b {
		t.Errorf("%q and %q part at texts that are the same", l, m)
	}
	wantIsClash(t, p.a, p.b, 31, true)
	wantIsClash(t, p.a, p.b, 32, same)
	wantIsClash(t, p.a, p.b, 33, false)
	if !same {
		return p.way + " of unlike roots"
	}
	return p.way
}

// Promise 8: the texts clash if the roots are the same. (This takes digests that do clash.)
func TestUnlikeListsOfOneRootClash(t *testing.T) {
	if !overWeakDigests(t) {
		return
	}
	ways := map[string]int{}
	small := listsOf([]string{"", "a", "\x00", "\x01"}, 3)
	for i, l := range small {
		for _, m := range small[:i] {
			if len(l) == len(m) {
				ways[wantPartOverWeak(t, l, m)]++
			}
		}
	}
	for _, n := range []int{4, 5, 8, 13, 200} {
		l := leafTexts(n)
		for i := 0; i < n; i += 1 + n/10 {
			one, several := slices.Clone(l), changed(l, 0, n/2, n-1)
			for j := range 12 {
				other := "other" + strconv.Itoa(j)
				one[i], several[i] = other, other
				ways[wantPartOverWeak(t, l, one)]++
				ways[wantPartOverWeak(t, l, several)]++
			}
		}
	}
	for _, way := range []string{
		"l", "n", "fl", "rl", "fn", "ffl", "frl", "rfl", "rrl", "fffl", "rrrl", "frfl", "ffn", "rrn",
		"l of unlike roots", "n of unlike roots",
	} {
		if ways[way] == 0 {
			t.Errorf("no lists part by the way %q", way)
		}
	}
}

// The roots of many of these are the same; that alone makes no clash.
func TestListsOfOneRootThatDoNotClash(t *testing.T) {
	if !overWeakDigests(t) {
		return
	}
	for n := range 203 {
		wantNoClash(t, leafTexts(n), leafTexts(n))
		wantNoClash(t, leafTexts(n), leafTexts(n+1))
	}
	for n := 201; n < 204; n++ {
		wantNoClash(t, leafTexts(n), changed(leafTexts(n), n/2))
	}
	wantNoClash(t, nil, []string{})
}
