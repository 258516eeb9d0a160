package tests

import (
	"math"
	"slices"
	"strings"
	"testing"

	"loop.example/g00233/impl"
)

// tileSizes: how many texts; those with whole tiles and nodes, those that pass these by one, and those at the limit.
var tileSizes = []int{0, 1, 2, 3, 4, 5, 7, 8, 12, 15, 16, 17, 19, 20, 21, 32, 33, 48, 63, 64, 65, 79, 80, 81, 127, 128, 129, 191, 192, 193, 199, 200}

// notTileSizes: how many texts have no tile.
var notTileSizes = []int{-1, -2, -4, -5, -64, -200, -256, math.MinInt, math.MinInt + 1, 201, 202, 204, 255, 256, 257, 1000, 1 << 32, 1<<32 + 4, math.MaxInt - 1, math.MaxInt}

// notLevels: among them those by which a number would be shifted round.
var notLevels = []int{-1, -2, -3, -4, -64, math.MinInt, math.MinInt + 1, 4, 5, 8, 16, 31, 32, 33, 63, 64, 65, 128, 256, 1 << 32, math.MaxInt}

// notPlaces: among them those which, taken by four or by a node's texts, come to a place that is there.
var notPlaces = []int{-1, -2, -4, -50, 51, 64, 200, 1 << 32, 1 << 56, 1 << 58, 1 << 60, 1 << 61, 1 << 62, 1<<62 + 1, -1 << 62, -1 << 58, math.MinInt, math.MinInt + 1, math.MaxInt - 1, math.MaxInt}

// rowByModel is all whole nodes of a level, each joined of four below it: no text is cut out.
func rowByModel(l []string, level int) []string {
	var row []string
	for _, s := range l {
		row = append(row, leafByModel(s))
	}
	for range level {
		var above []string
		for ; len(row) >= 4; row = row[4:] {
			above = append(above, nodeByModel(nodeByModel(row[0], row[1]), nodeByModel(row[2], row[3])))
		}
		row = above
	}
	return row
}

// tilesByModel cuts a row in pieces of four; the last one may be shorter.
func tilesByModel(l []string, level int) [][]string {
	var tiles [][]string
	for row := rowByModel(l, level); len(row) > 0; {
		n := min(4, len(row))
		tiles = append(tiles, row[:n])
		row = row[n:]
	}
	return tiles
}

func tileRootByModel(t []string) string {
	switch len(t) {
	case 1:
		return t[0]
	case 2:
		return nodeByModel(t[0], t[1])
	case 3:
		return nodeByModel(nodeByModel(t[0], t[1]), t[2])
	case 4:
		return nodeByModel(nodeByModel(t[0], t[1]), nodeByModel(t[2], t[3]))
	}
	return ""
}

// madeDigests: no two are alike.
func madeDigests(n int) []string {
	var l []string
	for i := range n {
		l = append(l, sumOf(strings.Repeat("d", i)))
	}
	return l
}

func wantTileCount(t *testing.T, n, level, want int) {
	t.Helper()
	if got := impl.TileCount(n, level); got != want {
		t.Errorf("TileCount(%d, %d) = %d; want %d", n, level, got, want)
	}
}

func wantTile(t *testing.T, l []string, level, i int, want []string) {
	t.Helper()
	if got := impl.TileOf(l, level, i); !slices.Equal(got, want) {
		t.Errorf("tile %d of level %d of %d texts = %x; want %x", i, level, len(l), got, want)
	}
}

func wantTileRoot(t *testing.T, tile []string, want string) {
	t.Helper()
	if got := impl.TileRoot(tile); got != want {
		t.Errorf("TileRoot of %d, %x = %x; want %x", len(tile), tile, got, want)
	}
}

// wantRowOfTiles: the tiles of a level are as the model tells, and there are no others.
func wantRowOfTiles(t *testing.T, l []string, level int) {
	t.Helper()
	tiles := tilesByModel(l, level)
	wantTileCount(t, len(l), level, len(tiles))
	for i, want := range tiles {
		wantTile(t, l, level, i, want)
	}
	for i := len(tiles); i < len(tiles)+9; i++ {
		wantTile(t, l, level, i, nil)
	}
}

// wantWordsOfTile: each digest is RootOf the texts that the chapter names, and there are as many as there are whole nodes.
func wantWordsOfTile(t *testing.T, l []string, level, i int) {
	t.Helper()
	below := []int{1, 4, 16, 64}[level]
	got := impl.TileOf(l, level, i)
	if want := max(0, min(4, len(l)/below-4*i)); len(got) != want {
		t.Fatalf("tile %d of level %d of %d texts has %d digests; want %d", i, level, len(l), len(got), want)
	}
	for k, h := range got {
		at := (4*i + k) * below
		if h != impl.RootOf(l[at:at+below]) || len(h) != 32 {
			t.Errorf("digest %d in tile %d of level %d of %d texts = %x", k, i, level, len(l), h)
		}
	}
}

func TestTileCountsByHand(t *testing.T) {
	for _, c := range []struct {
		n      int
		levels [4]int
	}{
		{0, [4]int{0, 0, 0, 0}}, {1, [4]int{1, 0, 0, 0}}, {3, [4]int{1, 0, 0, 0}}, {4, [4]int{1, 1, 0, 0}}, {5, [4]int{2, 1, 0, 0}},
		{15, [4]int{4, 1, 0, 0}}, {16, [4]int{4, 1, 1, 0}}, {17, [4]int{5, 1, 1, 0}}, {19, [4]int{5, 1, 1, 0}}, {20, [4]int{5, 2, 1, 0}},
		{21, [4]int{6, 2, 1, 0}}, {63, [4]int{16, 4, 1, 0}}, {64, [4]int{16, 4, 1, 1}}, {65, [4]int{17, 4, 1, 1}}, {68, [4]int{17, 5, 1, 1}},
		{79, [4]int{20, 5, 1, 1}}, {80, [4]int{20, 5, 2, 1}}, {128, [4]int{32, 8, 2, 1}}, {199, [4]int{50, 13, 3, 1}}, {200, [4]int{50, 13, 3, 1}},
	} {
		for level, want := range c.levels {
			wantTileCount(t, c.n, level, want)
		}
	}
}

func TestTileCountsOfEachSize(t *testing.T) {
	for n := range impl.MaxLeaves + 1 {
		for level := range 4 {
			wantTileCount(t, n, level, len(tilesByModel(make([]string, n), level)))
		}
	}
}

func TestWrongTileCounts(t *testing.T) {
	for _, n := range notTileSizes {
		for level := range 4 {
			wantTileCount(t, n, level, 0)
		}
		for _, level := range notLevels {
			wantTileCount(t, n, level, 0)
		}
	}
	for _, level := range notLevels {
		for n := range impl.MaxLeaves + 1 {
			wantTileCount(t, n, level, 0)
		}
	}
}

func TestTilesByHand(t *testing.T) {
	l := strings.Split("abcdefghijklmnopqrstu", "")
	leaf := map[string]string{}
	for _, s := range l {
		leaf[s] = leafByModel(s)
	}
	four := func(s string) string {
		return nodeByModel(nodeByModel(leaf[s[:1]], leaf[s[1:2]]), nodeByModel(leaf[s[2:3]], leaf[s[3:]]))
	}
	abcd, efgh, ijkl, mnop, qrst := four("abcd"), four("efgh"), four("ijkl"), four("mnop"), four("qrst")
	sixteen := nodeByModel(nodeByModel(abcd, efgh), nodeByModel(ijkl, mnop))
	wantTile(t, l, 0, 0, []string{leaf["a"], leaf["b"], leaf["c"], leaf["d"]})
	wantTile(t, l, 0, 1, []string{leaf["e"], leaf["f"], leaf["g"], leaf["h"]})
	wantTile(t, l, 0, 4, []string{leaf["q"], leaf["r"], leaf["s"], leaf["t"]})
	wantTile(t, l, 0, 5, []string{leaf["u"]})
	wantTile(t, l, 0, 6, nil)
	wantTile(t, l, 1, 0, []string{abcd, efgh, ijkl, mnop})
	wantTile(t, l, 1, 1, []string{qrst})
	wantTile(t, l, 1, 2, nil)
	wantTile(t, l, 2, 0, []string{sixteen})
	wantTile(t, l, 2, 1, nil)
	wantTile(t, l, 3, 0, nil)
	wantTile(t, l[:1], 0, 0, []string{leaf["a"]})
	wantTile(t, l[:2], 0, 0, []string{leaf["a"], leaf["b"]})
	wantTile(t, l[:3], 0, 0, []string{leaf["a"], leaf["b"], leaf["c"]})
	wantTile(t, l[:3], 1, 0, nil)
	wantTile(t, l[:4], 1, 0, []string{abcd})
	wantTile(t, l[:5], 0, 1, []string{leaf["e"]})
	wantTile(t, l[:5], 1, 0, []string{abcd})
	wantTile(t, l[:17], 1, 0, []string{abcd, efgh, ijkl, mnop})
	wantTile(t, l[:17], 1, 1, nil)
	wantTile(t, l[:15], 1, 0, []string{abcd, efgh, ijkl})
	wantTile(t, l[:15], 2, 0, nil)
	wantTile(t, l[:16], 2, 0, []string{sixteen})
	wantTileRoot(t, []string{abcd, efgh, ijkl, mnop}, sixteen)
}

func TestTilesOfEachPlace(t *testing.T) {
	for _, n := range tileSizes {
		for _, l := range edgeLists(n) {
			for level := range 4 {
				wantRowOfTiles(t, l, level)
				for i := range 60 {
					wantWordsOfTile(t, l, level, i)
				}
			}
		}
	}
}

func TestTilesOfEachSize(t *testing.T) {
	for n := range impl.MaxLeaves + 1 {
		for level := range 4 {
			wantRowOfTiles(t, leafTexts(n), level)
		}
	}
}

// Promise 9: a whole tile's root is in the tile above.
func TestRootsOfWholeTilesAreAbove(t *testing.T) {
	whole := [4]int{}
	for _, n := range tileSizes {
		for _, l := range edgeLists(n) {
			for level, below := range []int{1, 4, 16, 64} {
				for i := range impl.TileCount(n, level) {
					tile := impl.TileOf(l, level, i)
					if len(tile) != 4 {
						continue
					}
					whole[level]++
					root := impl.TileRoot(tile)
					if want := impl.RootOf(l[4*i*below : 4*(i+1)*below]); root != want || want != tileRootByModel(tile) {
						t.Errorf("the root of tile %d of level %d of %d texts = %x; want %x", i, level, n, root, want)
					}
					if above := impl.TileOf(l, level+1, i/4); len(above) <= i%4 || above[i%4] != root {
						t.Errorf("the root of tile %d of level %d of %d texts is not above: %x", i, level, n, above)
					}
				}
			}
		}
	}
	// A whole tile of the last level would have more texts below it than there may be.
	if whole[0] == 0 || whole[1] == 0 || whole[2] == 0 || whole[3] != 0 {
		t.Errorf("%d whole tiles were met", whole)
	}
}

// Each digest above the first level is the root of the tile at its place below, which is whole.
func TestWhatIsAboveIsOfWholeTiles(t *testing.T) {
	for _, n := range tileSizes {
		l := leafTexts(n)
		for level := 1; level < 4; level++ {
			for i := range impl.TileCount(n, level) {
				for k, h := range impl.TileOf(l, level, i) {
					below := impl.TileOf(l, level-1, 4*i+k)
					if len(below) != 4 || impl.TileRoot(below) != h {
						t.Errorf("digest %d in tile %d of level %d of %d texts is not of the tile below", k, i, level, n)
					}
				}
			}
		}
	}
}

// A tile that is not whole has the root of the texts below its nodes, too; in no tile above is there a digest of it.
func TestTilesThatAreNotWhole(t *testing.T) {
	for _, n := range tileSizes {
		l := leafTexts(n)
		for level, below := range []int{1, 4, 16, 64} {
			last := impl.TileCount(n, level) - 1
			tile := impl.TileOf(l, level, last)
			if len(tile) == 0 || len(tile) == 4 {
				continue
			}
			wantTileRoot(t, tile, impl.RootOf(l[4*last*below:(4*last+len(tile))*below]))
			if len(tile) != n/below%4 {
				t.Errorf("tile %d of level %d of %d texts has %d digests", last, level, n, len(tile))
			}
			if above := impl.TileOf(l, level+1, last/4); len(above) > last%4 {
				t.Errorf("tile %d of level %d of %d texts is not whole, but above: %x", last, level, n, above)
			}
		}
	}
}

// The last texts have no node where they are fewer than it is over: no tile of that level tells of them.
func TestNodesThatAreNotWhole(t *testing.T) {
	for _, n := range []int{3, 5, 17, 21, 33, 63, 65, 79, 127, 199, 200} {
		l := leafTexts(n)
		for level, below := range []int{1, 4, 16, 64} {
			nodes := n / below
			for _, more := range []int{nodes * below, n} {
				for i := range impl.TileCount(n, level) + 1 {
					wantTile(t, l[:more], level, i, impl.TileOf(l[:nodes*below], level, i))
				}
			}
			if rest := n % below; rest > 0 {
				other := changed(l, n-1, n-rest)
				for i := range impl.TileCount(n, level) + 1 {
					wantTile(t, other, level, i, impl.TileOf(l, level, i))
				}
			}
			if nodes > 0 {
				other, i := changed(l, nodes*below-1), (nodes-1)/4
				if slices.Equal(impl.TileOf(other, level, i), impl.TileOf(l, level, i)) {
					t.Errorf("the last text below level %d of %d does not tell", level, n)
				}
			}
		}
	}
}

// What is whole stays as it is, however many texts come behind it.
func TestWholeTilesStay(t *testing.T) {
	l := leafTexts(impl.MaxLeaves)
	for _, n := range tileSizes {
		for level := range 4 {
			for i := range impl.TileCount(n, level) {
				tile := impl.TileOf(l[:n], level, i)
				if grown := impl.TileOf(l, level, i); len(grown) < len(tile) || !slices.Equal(grown[:len(tile)], tile) {
					t.Errorf("tile %d of level %d of %d texts is another one of %d", i, level, n, len(l))
				}
			}
		}
	}
}

func TestPlacesWithoutTile(t *testing.T) {
	for _, n := range tileSizes {
		l := leafTexts(n)
		for level := range 4 {
			count := impl.TileCount(n, level)
			for _, i := range append([]int{count, count + 1, count + 4, -count - 1}, notPlaces...) {
				wantTile(t, l, level, i, nil)
			}
		}
		for _, level := range notLevels {
			for _, i := range append([]int{0, 1, 2, 12, 49, 50}, notPlaces...) {
				wantTile(t, l, level, i, nil)
			}
		}
	}
	for level := -1; level <= 4; level++ {
		for i := -1; i <= 1; i++ {
			wantTile(t, nil, level, i, nil)
			wantTile(t, []string{}, level, i, nil)
		}
	}
}

func TestTheLimitOfTiles(t *testing.T) {
	all := leafTexts(1000)
	for _, n := range []int{199, 200} {
		for level, last := range []int{49, 12, 2, 0} {
			wantTileCount(t, n, level, last+1)
			wantTile(t, all[:n], level, last, tilesByModel(all[:n], level)[last])
			wantTile(t, all[:n], level, last+1, nil)
			wantTile(t, all[:n], level, 0, tilesByModel(all[:n], level)[0])
			wantTile(t, all[:n], level, -1, nil)
		}
	}
	if got := impl.TileOf(all[:199], 0, 49); len(got) != 3 {
		t.Errorf("the last tile of 199 texts has %d digests", len(got))
	}
	if got := impl.TileOf(all[:199], 1, 12); len(got) != 1 {
		t.Errorf("the last tile of level 1 of 199 texts has %d digests", len(got))
	}
	if got := impl.TileOf(all[:200], 1, 12); len(got) != 2 {
		t.Errorf("the last tile of level 1 of 200 texts has %d digests", len(got))
	}
	for _, n := range []int{201, 202, 204, 255, 256, 257, 400, 1000} {
		for level := -1; level <= 5; level++ {
			wantTileCount(t, n, level, 0)
			for i := -1; i < 260; i++ {
				wantTile(t, all[:n], level, i, nil)
			}
		}
	}
}

func TestTileRootsByHand(t *testing.T) {
	d := madeDigests(4)
	ab := nodeByModel(d[0], d[1])
	wantTileRoot(t, d[:1], d[0])
	wantTileRoot(t, d[:2], ab)
	wantTileRoot(t, d[:3], nodeByModel(ab, d[2]))
	wantTileRoot(t, d, nodeByModel(ab, nodeByModel(d[2], d[3])))
	wantTileRoot(t, []string{d[1], d[0]}, nodeByModel(d[1], d[0]))
	wantTileRoot(t, d[2:], nodeByModel(d[2], d[3]))
	for n, digits := range knownRoots[1:5] {
		if got := impl.HexOf(impl.TileRoot(impl.TileOf(knownLeaves[:n+1], 0, 0))); got != digits {
			t.Errorf("the root of a tile of %d = %s; want %s", n+1, got, digits)
		}
	}
	eight := slices.Concat(impl.TileOf(knownLeaves, 0, 0), impl.TileOf(knownLeaves, 0, 1))
	for n, digits := range knownRoots[1:] {
		got := impl.TileRoot(eight[:min(n+1, 4)])
		if n >= 4 {
			got = impl.NodeHash(got, impl.TileRoot(eight[4:n+1]))
		}
		if impl.HexOf(got) != digits {
			t.Errorf("the root over the tiles of %d = %x; want %s", n+1, got, digits)
		}
	}
}

// Of all lists of one to four of these: alike and unlike, digests and texts that are none, which may be empty.
func TestTileRootsOfAllSmallLists(t *testing.T) {
	d := madeDigests(2)
	for _, texts := range [][]string{
		{d[0], d[1], ""}, {"", "a", "\x00"}, {"b", d[0] + d[1], d[0][:31]}, {d[0] + "\x00", "\x01" + d[1], d[1][1:]},
		{"\x00", "\x01", "\x01" + d[0] + d[1]}, {impl.HexOf(d[0]), strings.Repeat("x", 5000), "\xff"},
	} {
		for _, l := range listsOf(texts, 4) {
			wantTileRoot(t, l, tileRootByModel(l))
		}
	}
	wantTileRoot(t, []string{""}, "")
	wantTileRoot(t, []string{"a"}, "a")
	wantTileRoot(t, []string{"", ""}, nodeByModel("", ""))
	wantTileRoot(t, []string{"a", ""}, nodeByModel("a", ""))
	wantTileRoot(t, []string{"a", "b", ""}, nodeByModel(nodeByModel("a", "b"), ""))
	wantTileRoot(t, []string{"", "", "", ""}, nodeByModel(nodeByModel("", ""), nodeByModel("", "")))
}

func TestTileRootsOfNoneAndOfTooMany(t *testing.T) {
	wantTileRoot(t, nil, "")
	wantTileRoot(t, []string{}, "")
	d := madeDigests(201)
	for n := 5; n <= len(d); n++ {
		wantTileRoot(t, d[:n], "")
		wantTileRoot(t, make([]string, n), "")
	}
	wantTileRoot(t, slices.Repeat([]string{d[0]}, 5), "")
	wantTileRoot(t, append(slices.Clone(d[:4]), ""), "")
	wantTileRoot(t, append([]string{""}, d[:4]...), "")
	wantTileRoot(t, []string{d[0], "", "", "", ""}, "")
	wantTileRoot(t, d[:4], tileRootByModel(d[:4]))
}

func TestTilesLeaveTheirListsAlone(t *testing.T) {
	for _, n := range []int{0, 1, 3, 4, 5, 16, 17, 21, 63, 199, 200, 201} {
		plain := leafTexts(n)
		l := spared(plain, "spare", "room", "behind", "it", "all")
		kept := slices.Clone(l[:cap(l)])
		for level := -1; level <= 4; level++ {
			for i := -1; i <= impl.TileCount(n, level)+1; i++ {
				wantTile(t, l, level, i, impl.TileOf(plain, level, i)) // what is behind the list is not read
			}
		}
		if !slices.Equal(l[:cap(l)], kept) {
			t.Errorf("%d texts, or the room behind them, were written into", n)
		}
	}
	for n := range 7 {
		plain := madeDigests(n)
		tile := spared(plain, madeDigests(9)[n:]...)
		kept := slices.Clone(tile[:cap(tile)])
		wantTileRoot(t, tile, tileRootByModel(plain))
		if !slices.Equal(tile[:cap(tile)], kept) {
			t.Errorf("%d digests, or the room behind them, were written into", n)
		}
	}
}

func TestTilesShareNothing(t *testing.T) {
	const text = "a text of thirty-two bytes, whole"
	l := make([]string, 85)
	for i := range l {
		l[i] = strings.Clone(text)
	}
	for level := range 4 {
		for i := range impl.TileCount(len(l), level) {
			first, second := impl.TileOf(l, level, i), impl.TileOf(l, level, i)
			kept := slices.Clone(second)
			for _, h := range first {
				if slices.ContainsFunc(l, func(s string) bool { return within(h, s) }) {
					t.Errorf("a digest in tile %d of level %d is a piece of a text", i, level)
				}
			}
			for at := range first[:cap(first)] {
				first[:cap(first)][at] = "other"
			}
			if !slices.Equal(second, kept) || !slices.Equal(impl.TileOf(l, level, i), kept) {
				t.Errorf("tile %d of level %d hangs on another one", i, level)
			}
		}
	}
	for i, s := range l {
		if s != text {
			t.Errorf("text %d was written into: %q", i, s)
		}
	}
}

func TestTileRootsShareNoText(t *testing.T) {
	for _, texts := range [][]string{madeDigests(4), {"a", "b", "c", "d"}, {strings.Repeat("long", 100), "", "x", ""}} {
		for n := 1; n <= 4; n++ {
			var tile []string
			for _, s := range texts[:n] {
				tile = append(tile, strings.Clone(s))
			}
			root := impl.TileRoot(tile)
			for _, s := range tile {
				if within(root, s) {
					t.Errorf("the root of %d texts, %.40q, is a piece of one of them", n, root)
				}
			}
		}
	}
}
