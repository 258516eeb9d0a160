package tests

import (
	"math"
	"slices"
	"strings"
	"testing"

	"loop.example/g00233/impl"
)

var zeroHead = impl.Head{}

// notHeadSizes: those beside the limits, and those that come to a right one in fewer bits.
var notHeadSizes = []int{-1, -2, -200, -201, math.MinInt, math.MinInt + 1, 201, 202, 255, 256, 257, 1000, 1 << 32, 1<<32 + 200, math.MaxInt - 1, math.MaxInt}

// headWith is a head of this Size, its Root 32 times the letter.
func headWith(size int, letter string) impl.Head {
	return impl.Head{Size: size, Root: strings.Repeat(letter, 32)}
}

// headsOf reads heads such as 2a, 3b: a Size below 10 and the letter of the Root.
func headsOf(names string) []impl.Head {
	var table []impl.Head
	for _, name := range strings.Fields(names) {
		table = append(table, headWith(int(name[0]-'0'), name[1:]))
	}
	return table
}

// tablesOf: all tables of at most so many of these heads.
func tablesOf(heads []impl.Head, most int) [][]impl.Head {
	tables := [][]impl.Head{nil}
	for from := 0; len(tables[from]) < most; from++ {
		for _, h := range heads {
			tables = append(tables, append(slices.Clone(tables[from]), h))
		}
	}
	return tables
}

// smallTables are made of right heads, of wrong ones, or of both, and in some of them of the zero head.
func smallTables() [][]impl.Head {
	tables := tablesOf(headsOf("2a 2b 2c 3a 3b"), 5)
	tables = append(tables, tablesOf([]impl.Head{zeroHead, headWith(0, "a"), {Root: "x"}, headWith(-1, "a"), {Size: -1}}, 4)...)
	return append(tables, tablesOf([]impl.Head{headWith(201, "a"), headWith(201, "b"), {Size: 201}, headWith(200, "a"), headWith(math.MinInt, "b")}, 4)...)
}

// isSignedByModel holds the fields one by one.
func isSignedByModel(table []impl.Head, h impl.Head) bool {
	for _, other := range table {
		if other.Size == h.Size && other.Root == h.Root {
			return true
		}
	}
	return false
}

// bestHeadByModel sorts: those of the greatest Size come first, in their order.
func bestHeadByModel(table []impl.Head) impl.Head {
	sorted := slices.Clone(table)
	slices.SortStableFunc(sorted, func(a, b impl.Head) int {
		switch {
		case a.Size > b.Size:
			return -1
		case a.Size < b.Size:
			return 1
		}
		return 0
	})
	return append(sorted, zeroHead)[0]
}

// forkByModel goes through the table once: up to the first fork each Size has one Root, that of the first head of it.
func forkByModel(table []impl.Head) (impl.Head, impl.Head, bool) {
	roots := map[int]string{}
	for _, h := range table {
		root, met := roots[h.Size]
		if met && root != h.Root {
			return impl.Head{Size: h.Size, Root: root}, h, true
		}
		roots[h.Size] = h.Root
	}
	return zeroHead, zeroHead, false
}

func wantHeadOk(t *testing.T, h impl.Head, want bool) {
	t.Helper()
	if got := impl.HeadOk(h); got != want {
		t.Errorf("HeadOk of %d, %x: %v", h.Size, h.Root, got)
	}
}

func wantHead(t *testing.T, l []string, want impl.Head) {
	t.Helper()
	if got := impl.HeadOf(l); got != want {
		t.Errorf("HeadOf %d texts = %d, %x; want %d, %x", len(l), got.Size, got.Root, want.Size, want.Root)
	}
}

// wantHeadOfTexts: the head is that of these texts, and right.
func wantHeadOfTexts(t *testing.T, l []string) {
	t.Helper()
	wantHead(t, l, impl.Head{Size: len(l), Root: rootByModel(l)})
	wantHead(t, l, impl.Head{Size: len(l), Root: impl.RootOf(l)})
	wantHeadOk(t, impl.HeadOf(l), true)
}

func wantSigned(t *testing.T, table []impl.Head, h impl.Head, want bool) {
	t.Helper()
	if got := impl.IsSigned(table, h); got != want {
		t.Errorf("IsSigned of %#v, %#v: %v", table, h, got)
	}
}

func wantBest(t *testing.T, table []impl.Head, want impl.Head) {
	t.Helper()
	if got := impl.BestHead(table); got != want {
		t.Errorf("BestHead of %#v = %#v; want %#v", table, got, want)
	}
}

func wantFork(t *testing.T, table []impl.Head, first, second impl.Head) {
	t.Helper()
	if a, b, ok := impl.Fork(table); a != first || b != second || !ok {
		t.Errorf("Fork of %#v = %#v, %#v, %v; want %#v, %#v", table, a, b, ok, first, second)
	}
}

func wantNoFork(t *testing.T, table []impl.Head) {
	t.Helper()
	if a, b, ok := impl.Fork(table); a != zeroHead || b != zeroHead || ok {
		t.Errorf("Fork of %#v = %#v, %#v, %v; want none", table, a, b, ok)
	}
}

// wantForkAt: the table's heads at these places are what forks first.
func wantForkAt(t *testing.T, names string, first, second int) {
	t.Helper()
	table := headsOf(names)
	wantFork(t, table, table[first], table[second])
}

// wantTableLikeModel asks all of a table, and of heads that are there and not.
func wantTableLikeModel(t *testing.T, table, heads []impl.Head) {
	t.Helper()
	for _, h := range heads {
		wantSigned(t, table, h, isSignedByModel(table, h))
	}
	wantBest(t, table, bestHeadByModel(table))
	if a, b, ok := forkByModel(table); ok {
		wantFork(t, table, a, b)
	} else {
		wantNoFork(t, table)
	}
}

func TestHeadsByHand(t *testing.T) {
	a, b, c := leafByModel("a"), leafByModel("b"), leafByModel("c")
	ab := nodeByModel(a, b)
	wantHead(t, nil, impl.Head{Size: 0, Root: sumOf("")})
	wantHead(t, []string{}, impl.Head{Size: 0, Root: sumOf("")})
	wantHead(t, []string{"a"}, impl.Head{Size: 1, Root: a})
	wantHead(t, []string{""}, impl.Head{Size: 1, Root: leafByModel("")})
	wantHead(t, []string{"a", "b"}, impl.Head{Size: 2, Root: ab})
	wantHead(t, []string{"a", "b", "c"}, impl.Head{Size: 3, Root: nodeByModel(ab, c)})
	wantHead(t, []string{"a", "b", "c", "a", "b"}, impl.Head{Size: 5, Root: nodeByModel(nodeByModel(ab, nodeByModel(c, a)), b)})
	for n, digits := range knownRoots {
		root, _ := impl.UnHex(digits)
		wantHead(t, knownLeaves[:n], impl.Head{Size: n, Root: root})
	}
}

func TestHeadsOfEachSize(t *testing.T) {
	for n := range impl.MaxLeaves + 1 {
		for _, l := range edgeLists(n) {
			wantHeadOfTexts(t, l)
		}
	}
}

func TestTheLimitOfHeads(t *testing.T) {
	for _, l := range edgeLists(1000) {
		wantHeadOfTexts(t, l[:199])
		wantHeadOfTexts(t, l[:200])
		for _, n := range []int{201, 202, 255, 256, 257, 400, 1000} {
			wantHead(t, l[:n], zeroHead)
			wantHeadOk(t, impl.HeadOf(l[:n]), false)
		}
	}
}

func TestSizesOfHeads(t *testing.T) {
	for size := range impl.MaxLeaves + 1 {
		wantHeadOk(t, headWith(size, "a"), true)
		wantHeadOk(t, headWith(size, "\x00"), true)
		wantHeadOk(t, impl.Head{Size: size, Root: sumOf("")}, true) // whose digest it is, a head alone can't tell
		wantHeadOk(t, impl.Head{Size: size}, false)
	}
	for _, size := range notHeadSizes {
		wantHeadOk(t, headWith(size, "a"), false)
		wantHeadOk(t, headWith(size, "\xff"), false)
		wantHeadOk(t, impl.Head{Size: size}, false)
	}
}

func TestHowManyBytesRootsHave(t *testing.T) {
	for _, size := range []int{-1, 0, 1, 2, 31, 32, 33, 199, 200, 201} {
		for n := range 300 {
			for _, letter := range []string{"a", "\x00", "\xff"} {
				right := n == 32 && size >= 0 && size <= 200
				wantHeadOk(t, impl.Head{Size: size, Root: strings.Repeat(letter, n)}, right)
			}
		}
		wantHeadOk(t, impl.Head{Size: size, Root: strings.Repeat("é", 32)}, false) // bytes are asked for, not letters
		wantHeadOk(t, impl.Head{Size: size, Root: strings.Repeat("é", 16)}, size >= 0 && size <= 200)
		wantHeadOk(t, impl.Head{Size: size, Root: impl.HexOf(sumOf(""))}, false)
	}
	wantHeadOk(t, zeroHead, false)
}

func TestHeadsInATable(t *testing.T) {
	for _, n := range []int{1, 2, 3, 5, 100, 200} {
		var table []impl.Head
		for i := range n {
			table = append(table, impl.HeadOf(leafTexts(i+1)))
		}
		for i, h := range table {
			wantSigned(t, table, h, true) // the first, those in the middle, and the last
			wantSigned(t, table[:i], h, false)
			wantSigned(t, table[i+1:], h, false)
			wantSigned(t, table, impl.Head{Size: h.Size, Root: sumOf("other")}, false)
			wantSigned(t, table, impl.Head{Size: h.Size}, false)
			wantSigned(t, table, impl.Head{Size: 0, Root: h.Root}, false)
			wantSigned(t, table, impl.Head{Size: 201, Root: h.Root}, false)
			if n > 1 {
				wantSigned(t, table, impl.Head{Size: h.Size, Root: table[(i+1)%n].Root}, false)
			}
		}
		wantSigned(t, table, impl.HeadOf(nil), false)
		wantSigned(t, table, zeroHead, false)
	}
}

// A Root that is the beginning of another one, or is unlike in one byte, is another one.
func TestRootsAreWhole(t *testing.T) {
	h := impl.HeadOf([]string{"a", "b"})
	for i := range h.Root {
		b := []byte(h.Root)
		b[i] ^= 1
		other := impl.Head{Size: 2, Root: string(b)}
		wantSigned(t, []impl.Head{other}, h, false)
		wantFork(t, []impl.Head{h, other}, h, other)
		short := impl.Head{Size: 2, Root: h.Root[:i]}
		wantSigned(t, []impl.Head{short}, h, false)
		wantSigned(t, []impl.Head{h}, short, false)
		wantFork(t, []impl.Head{short, h}, short, h)
		long := impl.Head{Size: 2, Root: h.Root + h.Root[:i+1]}
		wantSigned(t, []impl.Head{long}, h, false)
		wantFork(t, []impl.Head{h, long}, h, long)
	}
}

// Promise 10: the best head is one of them.
func TestBestHeadIsOneOfThem(t *testing.T) {
	for _, n := range []int{1, 2, 5} {
		for at := range n {
			var table []impl.Head
			for i := range n {
				table = append(table, headWith(i+1, string(rune('a'+i))))
			}
			best := headWith(9, "z")
			table[at] = best
			wantBest(t, table, best)
			slices.Reverse(table)
			wantBest(t, table, best)
			wantSigned(t, table, impl.BestHead(table), true)
		}
	}
	for _, table := range smallTables() {
		if len(table) > 0 {
			wantSigned(t, table, impl.BestHead(table), true)
		}
	}
}

func TestBestOfHeadsOfTheGreatestSize(t *testing.T) {
	wantBest(t, headsOf("3a 3b 3c"), headWith(3, "a"))
	wantBest(t, headsOf("3c 3b 3a"), headWith(3, "c"))
	wantBest(t, headsOf("2a 3b 3a 2c"), headWith(3, "b"))
	wantBest(t, headsOf("1z 3b 2a 3a 3c"), headWith(3, "b"))
	wantBest(t, headsOf("3b 3b 3a"), headWith(3, "b"))
	wantBest(t, headsOf("0b 0a"), headWith(0, "b"))
	wantBest(t, headsOf("2a 9a 3a 9b 1a"), headWith(9, "a"))
}

// Of what is not HeadOk the words hold, too: it is there, and may be the best one.
func TestBestOfWrongHeads(t *testing.T) {
	low, lower, lowest := headWith(-1, "a"), headWith(-2, "b"), headWith(math.MinInt, "c")
	wantBest(t, []impl.Head{low}, low)
	wantBest(t, []impl.Head{lowest}, lowest)
	wantBest(t, []impl.Head{lower, low}, low)
	wantBest(t, []impl.Head{low, lower}, low)
	wantBest(t, []impl.Head{lowest, lower, low, headWith(-1, "z")}, low)
	wantBest(t, []impl.Head{lower, headWith(-2, "a"), lowest}, lower)
	wantBest(t, []impl.Head{lowest, headWith(math.MinInt, "a")}, lowest)
	wantBest(t, []impl.Head{low, zeroHead, lower}, zeroHead)
	wantBest(t, []impl.Head{zeroHead, impl.HeadOf(nil)}, zeroHead)
	wantBest(t, []impl.Head{impl.HeadOf(nil), zeroHead}, impl.HeadOf(nil))
	high, highest := headWith(201, "a"), impl.Head{Size: math.MaxInt, Root: "short"}
	wantBest(t, []impl.Head{headWith(200, "z"), high}, high)
	wantBest(t, []impl.Head{lowest, highest, high}, highest)
	wantBest(t, []impl.Head{highest, lowest}, highest)
	wantBest(t, []impl.Head{lowest, highest, lowest}, highest)
	wantBest(t, []impl.Head{headWith(1<<32, "a"), headWith(1<<32+1, "b"), headWith(7, "c")}, headWith(1<<32+1, "b"))
	wantBest(t, []impl.Head{{Size: 5, Root: "none"}, headWith(4, "a")}, impl.Head{Size: 5, Root: "none"})
}

func TestForksOfOnePair(t *testing.T) {
	wantForkAt(t, "1a 1b", 0, 1)
	wantForkAt(t, "1b 1a", 0, 1)
	wantForkAt(t, "0a 0b", 0, 1)
	wantForkAt(t, "1a 2b 2c", 1, 2)
	wantForkAt(t, "2b 1a 2c", 0, 2)
	wantForkAt(t, "2b 2c 1a", 0, 1)
	for n := 2; n < 7; n++ {
		for second := range n {
			for first := range second {
				var table []impl.Head
				for i := range n {
					table = append(table, headWith(10+i, "a"))
				}
				table[first], table[second] = headWith(3, "a"), headWith(3, "b")
				wantFork(t, table, table[first], table[second])
			}
		}
	}
}

// The second one stands as early as may be, then the first one.
func TestWhichTwoForkFirst(t *testing.T) {
	wantForkAt(t, "2a 3a 3b 2b", 1, 2)
	wantForkAt(t, "2a 3a 2b 3b", 0, 2)
	wantForkAt(t, "3a 2a 2b 3b", 1, 2)
	wantForkAt(t, "2a 2b 2c", 0, 1)
	wantForkAt(t, "2c 2b 2a", 0, 1)
	wantForkAt(t, "2a 2a 2b", 0, 2)
	wantForkAt(t, "2a 2b 2a", 0, 1)
	wantForkAt(t, "2a 3z 2a 3z 2b", 0, 4)
	wantForkAt(t, "1a 2a 3a 4a 4b 3b 2b 1b", 3, 4)
	wantForkAt(t, "1a 2a 3a 4a 1b 2b 3b 4b", 0, 4)
	wantForkAt(t, "5a 1a 1a 1b 5b 1c", 1, 3)
	wantForkAt(t, "1a 2b 2b 2b 1a 2c 1b", 1, 5)
}

func TestTablesThatDoNotFork(t *testing.T) {
	wantNoFork(t, headsOf("2a"))
	wantNoFork(t, headsOf("2a 2a"))
	wantNoFork(t, headsOf("2a 2a 2a"))
	wantNoFork(t, headsOf("1a 2a 3a"))
	wantNoFork(t, headsOf("1a 2b 3c"))
	wantNoFork(t, headsOf("3a 1b 3a 1b 3a"))
	wantNoFork(t, headsOf("1a 2b 2b 1a 3b 2b 3b"))
	var table []impl.Head
	for n := range impl.MaxLeaves + 1 {
		table = append(table, impl.HeadOf(leafTexts(n)))
	}
	wantNoFork(t, table)
	wantNoFork(t, append(slices.Clone(table), table...))
	other := impl.HeadOf(changed(leafTexts(200), 0))
	wantFork(t, append(slices.Clone(table), other), table[200], other)
	wantFork(t, append([]impl.Head{other}, table...), other, table[200])
}

func TestForksOfWrongHeads(t *testing.T) {
	for _, size := range append([]int{0, 200}, notHeadSizes...) {
		a, b, short, none := headWith(size, "a"), headWith(size, "b"), impl.Head{Size: size, Root: "a"}, impl.Head{Size: size}
		wantFork(t, []impl.Head{a, b}, a, b)
		wantFork(t, []impl.Head{none, a, b}, none, a)
		wantFork(t, []impl.Head{a, a, none}, a, none)
		wantFork(t, []impl.Head{short, none, a}, short, none)
		wantFork(t, []impl.Head{headWith(7, "a"), a, headWith(7, "a"), short}, a, short)
		wantNoFork(t, []impl.Head{none, none})
		wantNoFork(t, []impl.Head{a, headWith(7, "b"), a})
		wantNoFork(t, []impl.Head{short, short, {Size: 7, Root: "b"}})
	}
	wantNoFork(t, []impl.Head{headWith(-1, "a"), headWith(1, "b"), headWith(1<<32+1, "c"), headWith(math.MinInt, "d"), headWith(0, "e")})
	none := impl.HeadOf(nil)
	wantFork(t, []impl.Head{zeroHead, none}, zeroHead, none)
	wantFork(t, []impl.Head{none, zeroHead}, none, zeroHead)
	wantNoFork(t, []impl.Head{zeroHead, zeroHead})
	wantNoFork(t, []impl.Head{zeroHead})
}

func TestTablesOfNoHead(t *testing.T) {
	for _, table := range [][]impl.Head{nil, {}, make([]impl.Head, 0, 5), headsOf("2a 2b")[:0]} {
		for _, h := range append(headsOf("0a 2a 2b"), zeroHead, impl.HeadOf(nil)) {
			wantSigned(t, table, h, false)
		}
		wantBest(t, table, zeroHead)
		wantNoFork(t, table)
	}
}

func TestWrongHeadsInATable(t *testing.T) {
	wrong := []impl.Head{zeroHead, {Root: "x"}, {Size: 3}, {Size: 3, Root: "x"}}
	for _, size := range notHeadSizes {
		wrong = append(wrong, headWith(size, "a"), impl.Head{Size: size})
	}
	for i, h := range wrong {
		wantSigned(t, wrong, h, true)
		wantSigned(t, wrong[:i], h, false)
		wantSigned(t, wrong[i+1:], h, false)
		wantSigned(t, headsOf("0a 3a 3x"), h, false)
	}
	wantSigned(t, append(headsOf("1a"), zeroHead), zeroHead, true)
	wantSigned(t, append([]impl.Head{zeroHead}, headsOf("1a")...), zeroHead, true)
	wantSigned(t, []impl.Head{impl.HeadOf(nil), {Size: 1}, {Root: "x"}}, zeroHead, false)
}

func TestAllSmallTables(t *testing.T) {
	heads := append(headsOf("2a 2b 2c 3a 3b 3c 4a 0a"), zeroHead, headWith(-1, "a"), headWith(201, "a"), impl.Head{Size: 201})
	for _, table := range smallTables() {
		wantTableLikeModel(t, table, heads)
	}
}

// Promise 10: a fork is two of one size, whose Roots are unlike, and none ends ahead of its second one.
func TestAForkIsTwoOfOneSize(t *testing.T) {
	met := 0
	for _, table := range smallTables() {
		a, b, ok := impl.Fork(table)
		if !ok {
			continue
		}
		met++
		if a.Size != b.Size || a.Root == b.Root {
			t.Errorf("Fork of %#v = %#v, %#v", table, a, b)
		}
		first, second := slices.Index(table, a), slices.Index(table, b)
		if first < 0 || second <= first {
			t.Errorf("Fork of %#v = %#v, %#v: at %d, %d", table, a, b, first, second)
			continue
		}
		wantNoFork(t, table[:second])
		wantFork(t, table[:second+1], a, b)
	}
	if met == 0 {
		t.Error("no fork was met")
	}
}

// sparedHeads gives table with spare room behind it, in which a better head stands, and one that forks with each of table.
func sparedHeads(table []impl.Head) []impl.Head {
	all := slices.Clone(table)
	for _, h := range table {
		all = append(all, impl.Head{Size: h.Size, Root: h.Root + "other"})
	}
	all = append(all, impl.Head{Size: math.MaxInt, Root: "best"})
	return all[:len(table):len(all)]
}

func TestHeadsLeaveTheirListsAlone(t *testing.T) {
	for _, names := range []string{"", "2a", "2a 2a", "2a 2b", "1a 2a 3a", "3a 2a 1a", "2a 3a 3b 2b", "2a 2a 2b", "9a 1a 9b"} {
		plain := headsOf(names)
		table := sparedHeads(plain)
		kept := slices.Clone(table[:cap(table)])
		wantTableLikeModel(t, table, plain)
		for _, h := range kept[len(plain):] {
			wantSigned(t, table, h, false) // what is behind the table is not read
		}
		wantBest(t, table, impl.BestHead(plain))
		if !slices.Equal(table[:cap(table)], kept) {
			t.Errorf("the table %s, or the room behind it, was written into", names)
		}
	}
	for _, n := range []int{0, 1, 2, 3, 5, 64, 199, 200, 201} {
		l := spared(leafTexts(n), "spare", "room", "behind")
		kept := slices.Clone(l[:cap(l)])
		wantHead(t, l, impl.HeadOf(leafTexts(n)))
		if !slices.Equal(l[:cap(l)], kept) {
			t.Errorf("%d texts, or the room behind them, were written into", n)
		}
	}
}

func TestHeadsShareNoText(t *testing.T) {
	for _, names := range []string{"2a", "2a 2b", "1a 2a 3a", "2a 3a 3b 2b", "2a 2a 2b"} {
		table := headsOf(names)
		best := impl.BestHead(table)
		first, second, _ := impl.Fork(table)
		for _, h := range table {
			if within(best.Root, h.Root) || within(first.Root, h.Root) || within(second.Root, h.Root) {
				t.Errorf("a Root of an answer of the table %s is a piece of one of it", names)
			}
		}
	}
	l := []string{strings.Repeat("x", 32), strings.Repeat("y", 32)}
	for n := range 3 {
		h := impl.HeadOf(l[:n])
		if within(h.Root, l[0]) || within(h.Root, l[1]) {
			t.Errorf("the Root of %d texts is a piece of one", n)
		}
	}
}
