package tests

import (
	"math"
	"math/bits"
	"slices"
	"strings"
	"testing"

	"loop.example/g00233/impl"
)

// edgeByModel cuts the texts by the bits of how many there are: no digest is carried.
func edgeByModel(l []string) impl.Edge {
	e := impl.Edge{Size: len(l)}
	for size := 256; size > 0; size /= 2 {
		if len(l)&size != 0 {
			e.Hashes = append(e.Hashes, rootByModel(l[:size]))
			l = l[size:]
		}
	}
	return e
}

// madeEdge: an edge of so many texts, which nobody knows; no two of its digests are alike.
func madeEdge(size int) impl.Edge {
	e := impl.Edge{Size: size}
	for i := range bits.OnesCount(uint(size)) {
		e.Hashes = append(e.Hashes, sumOf(strings.Repeat("h", i)))
	}
	return e
}

func sameEdge(a, b impl.Edge) bool { return a.Size == b.Size && slices.Equal(a.Hashes, b.Hashes) }

func cloneEdge(e impl.Edge) impl.Edge {
	return impl.Edge{Size: e.Size, Hashes: slices.Clone(e.Hashes)}
}

func wantSameEdge(t *testing.T, what string, got, want impl.Edge) {
	t.Helper()
	if !sameEdge(got, want) {
		t.Errorf("%s = %d, %x; want %d, %x", what, got.Size, got.Hashes, want.Size, want.Hashes)
	}
}

// wantEdge: e is that of the texts, is right, and has their root.
func wantEdge(t *testing.T, what string, e impl.Edge, l []string) {
	t.Helper()
	wantSameEdge(t, what, e, edgeByModel(l))
	if !impl.EdgeOk(e) {
		t.Errorf("%s, of %d texts, is not right", what, len(l))
	}
	if got := impl.EdgeRoot(e); got != rootByModel(l) || got != impl.RootOf(l) {
		t.Errorf("%s, of %d texts, has the root %x; want %x", what, len(l), got, rootByModel(l))
	}
}

func wantAdd(t *testing.T, e impl.Edge, s string, want impl.Edge, ok bool) {
	t.Helper()
	got, gotOk := impl.EdgeAdd(e, s)
	wantSameEdge(t, "EdgeAdd", got, want)
	if gotOk != ok {
		t.Errorf("EdgeAdd of %d, %x: %v", e.Size, e.Hashes, gotOk)
	}
}

func wantAll(t *testing.T, e impl.Edge, l []string, want impl.Edge, ok bool) {
	t.Helper()
	got, gotOk := impl.EdgeAll(e, l)
	wantSameEdge(t, "EdgeAll", got, want)
	if gotOk != ok {
		t.Errorf("EdgeAll of %d, %x and %d texts: %v", e.Size, e.Hashes, len(l), gotOk)
	}
}

func wantWrongEdge(t *testing.T, e impl.Edge) {
	t.Helper()
	if impl.EdgeOk(e) {
		t.Errorf("%d, %x is taken for an edge", e.Size, e.Hashes)
	}
	if got := impl.EdgeRoot(e); got != "" {
		t.Errorf("%d, %x has the root %x", e.Size, e.Hashes, got)
	}
	for _, l := range [][]string{{""}, {"a"}, {"a", "b"}, leafTexts(9), leafTexts(200), leafTexts(201)} {
		wantAdd(t, e, l[0], e, false)
		wantAll(t, e, l, e, false)
	}
	wantAll(t, e, nil, e, true)
	wantAll(t, e, []string{}, e, true)
}

// edgeLists: the lists of so many texts that edges are asked of.
func edgeLists(n int) [][]string {
	return [][]string{leafTexts(n), alikeTexts(n), make([]string, n)}
}

func TestEdgesByHand(t *testing.T) {
	l := []string{"a", "b", "c", "d", "e", "a", "a", "h"}
	leaf := make([]string, len(l))
	for i, s := range l {
		leaf[i] = leafByModel(s)
	}
	pair := func(i int) string { return nodeByModel(leaf[i], leaf[i+1]) }
	abcd := nodeByModel(pair(0), pair(2))
	for n, hashes := range [][]string{
		nil, {leaf[0]}, {pair(0)}, {pair(0), leaf[2]}, {abcd}, {abcd, leaf[4]}, {abcd, pair(4)}, {abcd, pair(4), leaf[6]},
		{nodeByModel(abcd, nodeByModel(pair(4), pair(6)))},
	} {
		wantSameEdge(t, "EdgeOf", impl.EdgeOf(l[:n]), impl.Edge{Size: n, Hashes: hashes})
	}
	for n, root := range []string{
		sumOf(""), leaf[0], pair(0), nodeByModel(pair(0), leaf[2]), abcd, nodeByModel(abcd, leaf[4]),
		nodeByModel(abcd, pair(4)), nodeByModel(abcd, nodeByModel(pair(4), leaf[6])),
	} {
		if got := impl.EdgeRoot(impl.EdgeOf(l[:n])); got != root {
			t.Errorf("the root of %d = %x; want %x", n, got, root)
		}
	}
}

func TestKnownRootsOfEdges(t *testing.T) {
	for n, digits := range knownRoots {
		if got := impl.HexOf(impl.EdgeRoot(impl.EdgeOf(knownLeaves[:n]))); got != digits {
			t.Errorf("the root of %d = %s; want %s", n, got, digits)
		}
	}
}

// Promise 7: an edge has the root of all texts.
func TestEdgesOfEachSize(t *testing.T) {
	for n := range impl.MaxLeaves + 1 {
		for _, l := range edgeLists(n) {
			wantEdge(t, "EdgeOf", impl.EdgeOf(l), l)
		}
	}
}

// Promise 7: also when it came one by one.
func TestEdgesGrowOneByOne(t *testing.T) {
	for _, l := range edgeLists(impl.MaxLeaves) {
		e := impl.Edge{}
		for n, s := range l {
			next, ok := impl.EdgeAdd(e, s)
			if !ok {
				t.Errorf("text %d is refused", n)
			}
			wantEdge(t, "EdgeAdd", next, l[:n+1])
			wantSameEdge(t, "EdgeOf", impl.EdgeOf(l[:n+1]), next)
			e = next
		}
	}
}

// Promise 7: also when it came in two parts.
func TestEdgesGrowByParts(t *testing.T) {
	sizes := []int{0, 1, 2, 3, 4, 5, 7, 8, 15, 31, 63, 64, 99, 100, 127, 128, 199, 200}
	for _, l := range edgeLists(impl.MaxLeaves) {
		for _, n := range sizes {
			e := impl.EdgeOf(l[:n])
			for _, m := range sizes {
				if m >= n {
					wantAll(t, e, l[n:m], edgeByModel(l[:m]), true)
				}
			}
		}
	}
	l := alikeTexts(16)
	for n := range l {
		for m := n; m <= len(l); m++ {
			got, ok := impl.EdgeAll(impl.EdgeOf(l[:n]), l[n:m])
			if !ok {
				t.Errorf("%d behind %d are refused", m-n, n)
			}
			wantEdge(t, "EdgeAll", got, l[:m])
		}
	}
}

func TestNoTextMore(t *testing.T) {
	for n := range impl.MaxLeaves + 1 {
		e := madeEdge(n)
		wantAll(t, e, nil, e, true)
		wantAll(t, e, []string{}, e, true)
	}
}

func TestEdgesTellEachText(t *testing.T) {
	for _, n := range []int{1, 2, 3, 5, 8, 13, 199, 200} {
		l := leafTexts(n)
		root := impl.EdgeRoot(impl.EdgeOf(l))
		for i := range l {
			kept := l[i]
			l[i] += "\x80"
			if impl.EdgeRoot(impl.EdgeOf(l)) == root {
				t.Errorf("text %d of %d does not tell", i, n)
			}
			l[i] = kept
		}
	}
}

func TestCarries(t *testing.T) {
	l := leafTexts(impl.MaxLeaves)
	for _, n := range []int{1, 3, 7, 15, 31, 63, 127} {
		want := impl.Edge{Size: n + 1, Hashes: []string{rootByModel(l[:n+1])}}
		wantAdd(t, impl.EdgeOf(l[:n]), l[n], want, true)
		wantAll(t, impl.EdgeOf(l[:n]), l[n:n+1], want, true)
	}
	for n := 0; n < impl.MaxLeaves; n += 2 {
		e := edgeByModel(l[:n])
		want := impl.Edge{Size: n + 1, Hashes: slices.Concat(e.Hashes, []string{leafByModel(l[n])})}
		wantAdd(t, impl.EdgeOf(l[:n]), l[n], want, true)
	}
	// A carry ends at the first bit 0: the trees above it stay as they are, and one is new.
	for _, c := range []struct{ size, stay int }{{5, 1}, {11, 1}, {13, 2}, {19, 1}, {23, 1}, {27, 2}, {47, 1}, {95, 1}, {159, 1}, {191, 1}, {195, 2}, {199, 2}} {
		e := edgeByModel(l[:c.size])
		made := rootByModel(l[(c.size+1)&c.size : c.size+1])
		want := impl.Edge{Size: c.size + 1, Hashes: slices.Concat(e.Hashes[:c.stay], []string{made})}
		wantAdd(t, e, l[c.size], want, true)
	}
}

// No text is known of these digests: what is added is joined with them as they stand.
func TestEdgesOfAnyDigests(t *testing.T) {
	p, q, r := strings.Repeat("p", 32), strings.Repeat("\x00", 32), strings.Repeat("\xff", 32)
	x, y := leafByModel("x"), leafByModel("y")
	three, seven := impl.Edge{Size: 3, Hashes: []string{p, q}}, impl.Edge{Size: 7, Hashes: []string{p, q, r}}
	six, nine := impl.Edge{Size: 6, Hashes: []string{q, q}}, impl.Edge{Size: 9, Hashes: []string{r, p}}
	for _, c := range []struct {
		e    impl.Edge
		root string
	}{
		{impl.Edge{Size: 1, Hashes: []string{p}}, p}, {impl.Edge{Size: 128, Hashes: []string{q}}, q},
		{three, nodeByModel(p, q)}, {seven, nodeByModel(p, nodeByModel(q, r))},
		{six, nodeByModel(q, q)}, {nine, nodeByModel(r, p)},
	} {
		if got := impl.EdgeRoot(c.e); !impl.EdgeOk(c.e) || got != c.root {
			t.Errorf("%d, %x has the root %x", c.e.Size, c.e.Hashes, got)
		}
	}
	wantAdd(t, three, "x", impl.Edge{Size: 4, Hashes: []string{nodeByModel(p, nodeByModel(q, x))}}, true)
	wantAdd(t, seven, "x", impl.Edge{Size: 8, Hashes: []string{nodeByModel(p, nodeByModel(q, nodeByModel(r, x)))}}, true)
	wantAdd(t, six, "x", impl.Edge{Size: 7, Hashes: []string{q, q, x}}, true)
	wantAdd(t, nine, "x", impl.Edge{Size: 10, Hashes: []string{r, nodeByModel(p, x)}}, true)
	wantAll(t, six, []string{"x", "y"}, impl.Edge{Size: 8, Hashes: []string{nodeByModel(q, nodeByModel(q, nodeByModel(x, y)))}}, true)
	wantAll(t, nine, []string{"x", "y"}, impl.Edge{Size: 11, Hashes: []string{r, nodeByModel(p, x), y}}, true)
}

// EdgeAll is EdgeAdd of each, or e where one of these is refused.
func TestEdgeAllIsEdgeAddOfEach(t *testing.T) {
	l := alikeTexts(203)
	for _, size := range []int{0, 1, 2, 3, 6, 7, 12, 100, 127, 128, 191, 195, 196, 197, 198, 199, 200} {
		e := madeEdge(size)
		want, ok := e, true
		for n := range len(l) + 1 {
			if ok {
				wantAll(t, e, l[:n], want, true)
			} else {
				wantAll(t, e, l[:n], e, false)
			}
			if n < len(l) && ok {
				want, ok = impl.EdgeAdd(want, l[n])
			}
		}
		if ok || want.Size != impl.MaxLeaves {
			t.Errorf("%d texts are taken behind %d", want.Size-size, size)
		}
	}
}

func TestTheLimitOfEdges(t *testing.T) {
	for _, l := range edgeLists(impl.MaxLeaves + 1) {
		for _, n := range []int{199, 200} {
			wantEdge(t, "EdgeOf", impl.EdgeOf(l[:n]), l[:n])
		}
		wantSameEdge(t, "EdgeOf 201 texts", impl.EdgeOf(l), impl.Edge{})
		almost, full := impl.EdgeOf(l[:199]), impl.EdgeOf(l[:200])
		wantAdd(t, almost, l[199], full, true)
		wantAll(t, almost, l[199:200], full, true)
		wantAll(t, almost, l[199:], almost, false)
		wantAdd(t, full, l[200], full, false)
		wantAdd(t, full, "", full, false)
		wantAll(t, full, l[200:], full, false)
		wantAll(t, full, nil, full, true)
		wantAll(t, impl.Edge{}, l[:200], full, true)
		wantAll(t, impl.Edge{}, l, impl.Edge{}, false)
		for _, n := range []int{1, 2, 100, 127, 128, 150} {
			e := impl.EdgeOf(l[:n])
			wantAll(t, e, l[n:200], full, true)
			wantAll(t, e, l[n:], e, false)
		}
	}
	for _, n := range []int{202, 255, 256, 257, 400, 1000} {
		l := leafTexts(n)
		wantSameEdge(t, "EdgeOf too many", impl.EdgeOf(l), impl.Edge{})
		wantAll(t, impl.EdgeOf(l[:3]), l[3:], impl.EdgeOf(l[:3]), false)
	}
}

func TestEdgesOfNoText(t *testing.T) {
	for _, e := range []impl.Edge{{}, {Hashes: []string{}}, impl.EdgeOf(nil), impl.EdgeOf([]string{})} {
		wantEdge(t, "that of none", e, nil)
		wantAdd(t, e, "", impl.Edge{Size: 1, Hashes: []string{leafByModel("")}}, true)
	}
}

func TestHowManyDigestsEdgesHave(t *testing.T) {
	for size := -3; size <= 260; size++ {
		for n := range 10 {
			e := impl.Edge{Size: size}
			for i := range n {
				e.Hashes = append(e.Hashes, sumOf(strings.Repeat("d", i)))
			}
			right := size >= 0 && size <= 200 && bits.OnesCount8(uint8(size)) == n
			if got := impl.EdgeOk(e); got != right {
				t.Errorf("EdgeOk of %d with %d digests: %v", size, n, got)
			}
			if !right && (size < 10 || size%8 == 7 || size > 198) {
				wantWrongEdge(t, e)
			}
		}
	}
}

func TestWrongSizesOfEdges(t *testing.T) {
	for _, size := range []int{-1, -2, -200, math.MinInt, math.MinInt + 1, 201, 202, 255, 256, 257, 1 << 32, 1<<32 + 3, math.MaxInt, math.MaxInt - 1} {
		wantWrongEdge(t, impl.Edge{Size: size})
		wantWrongEdge(t, madeEdge(size))
		wantWrongEdge(t, impl.Edge{Size: size, Hashes: madeEdge(200).Hashes})
		wantWrongEdge(t, impl.Edge{Size: size, Hashes: madeEdge(1).Hashes})
	}
}

func TestADigestMoreOrLess(t *testing.T) {
	l := leafTexts(impl.MaxLeaves)
	for _, n := range append([]int{0}, treeSizes...) {
		e := edgeByModel(l[:n])
		for _, h := range append([]string{"", sumOf("more")}, e.Hashes...) {
			wantWrongEdge(t, impl.Edge{Size: n, Hashes: slices.Concat(e.Hashes, []string{h})})
			wantWrongEdge(t, impl.Edge{Size: n, Hashes: slices.Concat([]string{h}, e.Hashes)})
		}
		for i := range e.Hashes {
			wantWrongEdge(t, impl.Edge{Size: n, Hashes: slices.Delete(slices.Clone(e.Hashes), i, i+1)})
		}
	}
	wantWrongEdge(t, impl.Edge{Hashes: []string{impl.RootOf(nil)}})
	wantWrongEdge(t, impl.Edge{Hashes: []string{""}})
	wantWrongEdge(t, impl.Edge{Hashes: make([]string, 1000)})
}

func TestDigestsThatHaveNot32Bytes(t *testing.T) {
	l := leafTexts(impl.MaxLeaves)
	for _, n := range []int{1, 2, 3, 7, 8, 100, 127, 191, 200} {
		for i, h := range edgeByModel(l[:n]).Hashes {
			for _, other := range []string{"", h[:1], h[:31], h[1:], h + "\x00", "\x00" + h, h + h, impl.HexOf(h)} {
				e := edgeByModel(l[:n])
				e.Hashes[i] = other
				wantWrongEdge(t, e)
			}
			if i > 0 {
				e := edgeByModel(l[:n])
				moved := e.Hashes[i-1] + h // as many bytes, cut elsewhere
				e.Hashes[i-1], e.Hashes[i] = moved[:31], moved[31:]
				wantWrongEdge(t, e)
				e.Hashes[i-1], e.Hashes[i] = moved[:33], moved[33:]
				wantWrongEdge(t, e)
			}
		}
	}
}

// edgesToAdd: right ones and wrong ones, full ones and empty ones.
func edgesToAdd() []impl.Edge {
	edges := []impl.Edge{{Size: -1}, {Size: 3, Hashes: []string{"short", "ones"}}, {Hashes: []string{sumOf("")}}, {Size: 201, Hashes: madeEdge(201).Hashes}}
	for _, n := range []int{0, 1, 2, 3, 6, 7, 8, 127, 191, 199, 200} {
		edges = append(edges, madeEdge(n))
	}
	return edges
}

// edgeAnswers: all that is answered of an edge by edges.
func edgeAnswers(e impl.Edge, l []string) []impl.Edge {
	one, _ := impl.EdgeAdd(e, "one")
	none, _ := impl.EdgeAll(e, nil)
	all, _ := impl.EdgeAll(e, l)
	many, _ := impl.EdgeAll(e, make([]string, 201))
	return []impl.Edge{one, none, all, many}
}

func TestEdgesLeaveTheirListsAlone(t *testing.T) {
	for _, e := range edgesToAdd() {
		e.Hashes = spared(e.Hashes, "spare", "room", "behind", "it")
		l := spared(leafTexts(5), "spare", "room", "behind", "it")
		keptHashes, keptTexts := slices.Clone(e.Hashes[:cap(e.Hashes)]), slices.Clone(l[:cap(l)])
		impl.EdgeOk(e)
		impl.EdgeRoot(e)
		edgeAnswers(e, l)
		wantEdge(t, "EdgeOf", impl.EdgeOf(l), leafTexts(5))
		if !slices.Equal(e.Hashes[:cap(e.Hashes)], keptHashes) {
			t.Errorf("an edge of %d, or the room behind it, was written into", e.Size)
		}
		if !slices.Equal(l[:cap(l)], keptTexts) {
			t.Errorf("the texts behind an edge of %d, or the room behind them, were written into", e.Size)
		}
	}
}

// What stands in the room behind an edge's digests is none of them.
func TestTheRoomBehindAnEdgeIsNotRead(t *testing.T) {
	for _, n := range []int{1, 3, 7, 127, 200} {
		e := madeEdge(n)
		end := len(e.Hashes)
		wantWrongEdge(t, impl.Edge{Size: n, Hashes: e.Hashes[: end-1 : end]})
		full := spared(e.Hashes, sumOf("more"), sumOf("and more"))
		wantAdd(t, impl.Edge{Size: n, Hashes: full}, "x", edgeOf(impl.EdgeAdd(e, "x")), n < 200)
		if got := impl.EdgeRoot(impl.Edge{Size: n, Hashes: full}); got != impl.EdgeRoot(e) {
			t.Errorf("an edge of %d hangs on the room behind it", n)
		}
	}
}

func edgeOf(e impl.Edge, _ bool) impl.Edge { return e }

func TestEdgesShareNoList(t *testing.T) {
	for _, e := range edgesToAdd() {
		e.Hashes = spared(e.Hashes, "spare", "room", "behind", "it")
		kept := slices.Clone(e.Hashes[:cap(e.Hashes)])
		first, second := edgeAnswers(e, leafTexts(5)), edgeAnswers(e, leafTexts(5))
		wanted := make([]impl.Edge, len(second))
		for i, answer := range second {
			wanted[i] = cloneEdge(answer)
		}
		for _, answer := range first {
			whole := answer.Hashes[:cap(answer.Hashes)]
			for at := range whole {
				whole[at] = "other"
			}
		}
		if !slices.Equal(e.Hashes[:cap(e.Hashes)], kept) {
			t.Errorf("an answer shares the list of its edge of %d", e.Size)
		}
		for i, answer := range second {
			if !sameEdge(answer, wanted[i]) {
				t.Errorf("answer %d of an edge of %d hangs on another one", i, e.Size)
			}
		}
	}
}

func TestEdgesShareNoText(t *testing.T) {
	for _, e := range edgesToAdd() {
		for i, h := range e.Hashes {
			e.Hashes[i] = strings.Clone(h)
		}
		l := []string{strings.Clone("a text of thirty-two bytes whole"), strings.Repeat("x", 40)}
		given := slices.Concat(e.Hashes, l)
		parts := []string{impl.EdgeRoot(e)}
		for _, answer := range append(edgeAnswers(e, l), impl.EdgeOf(l)) {
			parts = append(parts, answer.Hashes...)
		}
		for _, p := range parts {
			if slices.ContainsFunc(given, func(s string) bool { return within(p, s) }) {
				t.Errorf("a digest %x of an answer of an edge of %d is a piece of what was given", p, e.Size)
			}
		}
	}
}
