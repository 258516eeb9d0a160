package tests

import (
	"fmt"
	"slices"
	"strings"
	"testing"

	"loop.example/g00233/impl"
)

// modelPres: what stands in Pre where the model orders versions, from the least on; one without a Pre is the last.
var modelPres = []string{"0", "2", "10", "10.0", "a", "rc.1", "rc.2", "rc.10", "rc.a", ""}

// laterByModel orders versions by the table of Pres, so that no model here hangs on the program's order.
func laterByModel(a, b impl.Version) bool {
	place := func(v impl.Version) []int { return []int{v.Major, v.Minor, v.Patch, slices.Index(modelPres, v.Pre)} }
	return slices.Compare(place(a), place(b)) > 0
}

func isNeedsByModel(l []impl.Need) bool {
	for i, n := range l {
		named, ok := needByModel(nameOf(n))
		if !ok || named != n || i > 0 && l[i-1].Path >= n.Path {
			return false
		}
	}
	return len(l) <= 20
}

func isEntryByModel(e impl.Entry) bool {
	named, ok := entryByModel(formOf(e))
	return ok && sameEntry(named, e)
}

// entriesByModel: of each name the entry that counts.
func entriesByModel(l []impl.Entry) map[string]impl.Entry {
	entries := map[string]impl.Entry{}
	for key, places := range placesByModel(l) {
		entries[key] = l[places[0]]
	}
	return entries
}

// reachByModel asks the row itself whether a need is in it.
func reachByModel(l []impl.Entry, roots []impl.Need) ([]impl.Need, int) {
	if !isNeedsByModel(roots) {
		return nil, impl.SelForm
	}
	row, entries := slices.Clone(roots), entriesByModel(l)
	for at := 0; at < len(row); at++ {
		e, ok := entries[keyByModel(row[at].Path, row[at].V)]
		if !ok || !isEntryByModel(e) {
			return nil, impl.SelNone
		}
		for _, n := range e.Needs {
			if !slices.Contains(row, n) {
				row = append(row, n)
			}
			if len(row) == 61 {
				return nil, impl.SelMany
			}
		}
	}
	return row, impl.SelGood
}

// latestByModel takes out of a row, in which each stands once, all of which there is a later one.
func latestByModel(row []impl.Need) []impl.Need {
	latest := slices.DeleteFunc(slices.Clone(row), func(n impl.Need) bool {
		return slices.ContainsFunc(row, func(other impl.Need) bool { return other.Path == n.Path && laterByModel(other.V, n.V) })
	})
	slices.SortFunc(latest, func(a, b impl.Need) int { return strings.Compare(a.Path, b.Path) })
	return latest
}

func coversByModel(list, needs []impl.Need) bool {
	met := 0
	for _, n := range needs {
		if slices.ContainsFunc(list, func(have impl.Need) bool { return have.Path == n.Path && !laterByModel(n.V, have.V) }) {
			met++
		}
	}
	return met == len(needs)
}

func closedByModel(l []impl.Entry, list []impl.Need) bool {
	var needs []impl.Need
	entries := entriesByModel(l)
	for _, n := range list {
		e, ok := entries[keyByModel(n.Path, n.V)]
		if !ok {
			return false
		}
		needs = append(needs, e.Needs...)
	}
	return coversByModel(list, needs)
}

func wantReach(t *testing.T, l []impl.Entry, roots []impl.Need, want ...impl.Need) {
	t.Helper()
	if row, code := impl.Reach(l, roots); code != impl.SelGood || !slices.Equal(row, want) {
		t.Errorf("Reach of %.300q in %.500q = %.500q, %d; want %.500q, SelGood", fmt.Sprint(roots), fmt.Sprint(l), fmt.Sprint(row), code, fmt.Sprint(want))
	}
}

func wantSelect(t *testing.T, l []impl.Entry, roots []impl.Need, want ...impl.Need) {
	t.Helper()
	if chosen, code := impl.Select(l, roots); code != impl.SelGood || !slices.Equal(chosen, want) {
		t.Errorf("Select of %.300q in %.500q = %.500q, %d; want %.500q, SelGood", fmt.Sprint(roots), fmt.Sprint(l), fmt.Sprint(chosen), code, fmt.Sprint(want))
	}
}

// wantFault asks both: with a fault neither answers a need.
func wantFault(t *testing.T, l []impl.Entry, roots []impl.Need, want int) {
	t.Helper()
	if row, code := impl.Reach(l, roots); code != want || len(row) != 0 {
		t.Errorf("Reach of %.300q in %.500q = %.300q, %d; want nothing, %d", fmt.Sprint(roots), fmt.Sprint(l), fmt.Sprint(row), code, want)
	}
	if chosen, code := impl.Select(l, roots); code != want || len(chosen) != 0 {
		t.Errorf("Select of %.300q in %.500q = %.300q, %d; want nothing, %d", fmt.Sprint(roots), fmt.Sprint(l), fmt.Sprint(chosen), code, want)
	}
}

func wantCovers(t *testing.T, list, needs []impl.Need, want bool) {
	t.Helper()
	if got := impl.Covers(list, needs); got != want {
		t.Errorf("Covers of %.300q by %.500q = %v", fmt.Sprint(needs), fmt.Sprint(list), got)
	}
}

func wantClosed(t *testing.T, l []impl.Entry, list []impl.Need, want bool) {
	t.Helper()
	if got := impl.Closed(l, list); got != want {
		t.Errorf("Closed of %.300q in %.500q = %v", fmt.Sprint(list), fmt.Sprint(l), got)
	}
}

// wantReachLikeModel answers with the row and the code of the model.
func wantReachLikeModel(t *testing.T, l []impl.Entry, roots []impl.Need) ([]impl.Need, int) {
	t.Helper()
	row, code := reachByModel(l, roots)
	if code != impl.SelGood {
		wantFault(t, l, roots, code)
		return nil, code
	}
	wantReach(t, l, roots, row...)
	wantSelect(t, l, roots, latestByModel(row)...)
	return row, code
}

func wantClosedLikeModel(t *testing.T, l []impl.Entry, list []impl.Need) {
	t.Helper()
	wantClosed(t, l, list, closedByModel(l, list))
}

func without(l []impl.Need, at int) []impl.Need { return slices.Delete(slices.Clone(l), at, at+1) }

func withoutEntry(l []impl.Entry, at int) []impl.Entry {
	return slices.Delete(slices.Clone(l), at, at+1)
}

func withEntry(l []impl.Entry, at int, e impl.Entry) []impl.Entry {
	changed := slices.Clone(l)
	changed[at] = e
	return changed
}

// spoiltEntries: entries of the name that e has, none of which is right.
func spoiltEntries(e impl.Entry) []impl.Entry {
	spoilt := func(needs ...impl.Need) impl.Entry { return impl.Entry{Path: e.Path, V: e.V, Needs: needs} }
	y := needsOf("y@v1.0.0")[0]
	return []impl.Entry{
		spoilt(impl.Need{Path: e.Path, V: e.V}),
		spoilt(impl.Need{Path: e.Path, V: impl.Version{Major: e.V.Major, Minor: 77}}),
		spoilt(y, y),
		spoilt(needsOf("z@v1.0.0", "y@v1.0.0")...),
		spoilt(needsOf("y@v1.0.0", "y@v1.1.0")...),
		spoilt(needsOf("q@v0.0.0", "r@v0.0.0", "s@v0.0.0", "t@v0.0.0", "u@v0.0.0", "w@v0.0.0", "x@v0.0.0", "y@v0.0.0", "z@v0.0.0")...),
		spoilt(impl.Need{}),
		spoilt(impl.Need{Path: "Y", V: y.V}),
		spoilt(impl.Need{Path: "y", V: impl.Version{Major: 2}}),
		spoilt(impl.Need{Path: "y/v2", V: y.V}),
		spoilt(impl.Need{Path: "y", V: impl.Version{Major: 1, Minor: -1}}),
		spoilt(impl.Need{Path: "y", V: impl.Version{Major: 1, Pre: "01"}}),
		spoilt(y, impl.Need{Path: "z", V: impl.Version{Patch: 1000001}}),
	}
}

// treeOf: so many entries, in the order in which they are reached from the first ones, its roots; each needs so many more, as far as there are any.
func treeOf(size, roots, each int) []impl.Entry {
	var l []impl.Entry
	for i := range size {
		from := min(roots+each*i, size)
		l = append(l, impl.Entry{Path: treeName(i).Path, V: treeName(i).V, Needs: treeNames(from, min(from+each, size))})
	}
	return l
}

func treeName(i int) impl.Need {
	return impl.Need{Path: fmt.Sprintf("p%03d", i), V: impl.Version{Major: 1, Minor: i % 3}}
}

func treeNames(from, to int) []impl.Need {
	var names []impl.Need
	for i := from; i < to; i++ {
		names = append(names, treeName(i))
	}
	return names
}

// treeShapes: chains, and trees that are wide at their roots, further up, or both.
var treeShapes = []struct{ roots, each int }{{1, 1}, {1, 8}, {1, 2}, {2, 1}, {7, 3}, {19, 1}, {20, 1}, {20, 2}, {20, 8}}

// selectWorld: two ways to d, two versions of b, and four of d, the last of which nothing needs.
func selectWorld() []impl.Entry {
	return []impl.Entry{
		entryOf("a@v1.0.0", "b@v1.1.0", "c@v1.2.0"),
		entryOf("b@v1.1.0", "d@v1.3.0"),
		entryOf("b@v1.2.0", "d@v1.4.0"),
		entryOf("c@v1.2.0", "d@v1.1.0"),
		entryOf("d@v1.1.0"),
		entryOf("d@v1.3.0"),
		entryOf("d@v1.4.0"),
		entryOf("d@v1.9.0"),
	}
}

// Promise 16, by the document's own words, of small and ordinary worlds.
func TestReachAndSelect(t *testing.T) {
	l := selectWorld()
	for _, c := range []struct{ roots, row, chosen string }{
		{"", "", ""},
		{"d@v1.1.0", "d@v1.1.0", "d@v1.1.0"},
		{"d@v1.9.0", "d@v1.9.0", "d@v1.9.0"},
		{"b@v1.1.0", "b@v1.1.0 d@v1.3.0", "b@v1.1.0 d@v1.3.0"},
		{"a@v1.0.0", "a@v1.0.0 b@v1.1.0 c@v1.2.0 d@v1.3.0 d@v1.1.0", "a@v1.0.0 b@v1.1.0 c@v1.2.0 d@v1.3.0"},
		{"a@v1.0.0 b@v1.2.0", "a@v1.0.0 b@v1.2.0 b@v1.1.0 c@v1.2.0 d@v1.4.0 d@v1.3.0 d@v1.1.0", "a@v1.0.0 b@v1.2.0 c@v1.2.0 d@v1.4.0"},
		{"a@v1.0.0 d@v1.9.0", "a@v1.0.0 d@v1.9.0 b@v1.1.0 c@v1.2.0 d@v1.3.0 d@v1.1.0", "a@v1.0.0 b@v1.1.0 c@v1.2.0 d@v1.9.0"},
		{"b@v1.2.0 c@v1.2.0", "b@v1.2.0 c@v1.2.0 d@v1.4.0 d@v1.1.0", "b@v1.2.0 c@v1.2.0 d@v1.4.0"},
		{"b@v1.1.0 c@v1.2.0 d@v1.1.0", "b@v1.1.0 c@v1.2.0 d@v1.1.0 d@v1.3.0", "b@v1.1.0 c@v1.2.0 d@v1.3.0"},
	} {
		roots, row, chosen := needsOf(strings.Fields(c.roots)...), needsOf(strings.Fields(c.row)...), needsOf(strings.Fields(c.chosen)...)
		for range 2 {
			wantReach(t, l, roots, row...)
			wantSelect(t, l, roots, chosen...)
			wantReachLikeModel(t, l, roots)
			wantClosed(t, l, chosen, true)
			wantCovers(t, chosen, row, true)
			slices.Reverse(l) // the order of the entries tells nothing
		}
	}
}

func TestEntriesThatNeedNothing(t *testing.T) {
	l := []impl.Entry{entryOf("c@v1.0.0"), entryOf("b@v0.1.0"), entryOf("a@v1.0.0"), entryOf("a@v1.1.0"), entryOf("a/v2@v2.0.0")}
	for _, roots := range [][]impl.Need{nil, {}, needsOf("a@v1.0.0"), needsOf("a@v1.1.0", "c@v1.0.0"), needsOf("a@v1.0.0", "a/v2@v2.0.0", "b@v0.1.0", "c@v1.0.0")} {
		wantReach(t, l, roots, roots...)
		wantSelect(t, l, roots, roots...)
	}
}

// The row is gone through from its beginning: what is needed by the first ones comes ahead of what that needs.
func TestTheRowIsInOrder(t *testing.T) {
	l := []impl.Entry{
		entryOf("a@v1.0.0", "x@v1.0.0", "z@v1.0.0"),
		entryOf("b@v1.0.0", "a@v1.1.0", "y@v1.0.0"),
		entryOf("x@v1.0.0", "c@v1.0.0", "m@v1.0.0"),
		entryOf("z@v1.0.0", "b@v1.0.0", "c@v1.1.0", "y@v1.0.0"),
		entryOf("a@v1.1.0", "a/v2@v2.0.0", "m@v1.0.0"),
		entryOf("y@v1.0.0"), entryOf("c@v1.0.0"), entryOf("c@v1.1.0"), entryOf("m@v1.0.0"), entryOf("a/v2@v2.0.0"),
	}
	roots := needsOf("a@v1.0.0", "b@v1.0.0")
	wantReach(t, l, roots, needsOf("a@v1.0.0", "b@v1.0.0", "x@v1.0.0", "z@v1.0.0", "a@v1.1.0", "y@v1.0.0", "c@v1.0.0", "m@v1.0.0", "c@v1.1.0", "a/v2@v2.0.0")...)
	wantSelect(t, l, roots, needsOf("a@v1.1.0", "a/v2@v2.0.0", "b@v1.0.0", "c@v1.1.0", "m@v1.0.0", "x@v1.0.0", "y@v1.0.0", "z@v1.0.0")...)
	wantReach(t, l, roots[1:], needsOf("b@v1.0.0", "a@v1.1.0", "y@v1.0.0", "a/v2@v2.0.0", "m@v1.0.0")...)
	wantReach(t, l, roots[:1], needsOf("a@v1.0.0", "x@v1.0.0", "z@v1.0.0", "c@v1.0.0", "m@v1.0.0", "b@v1.0.0", "c@v1.1.0", "y@v1.0.0", "a@v1.1.0", "a/v2@v2.0.0")...)
}

// What an entry of the row needs counts, though a later version of it is the one that is selected.
func TestWhatIsNeededByWhatIsNotSelected(t *testing.T) {
	l := []impl.Entry{
		entryOf("a@v1.0.0", "d@v1.2.0", "e@v1.0.0"),
		entryOf("a@v1.1.0"),
		entryOf("c@v1.0.0", "a@v1.1.0"),
		entryOf("d@v1.0.0"), entryOf("d@v1.2.0", "f@v1.0.0"), entryOf("e@v1.0.0"), entryOf("f@v1.0.0"),
	}
	roots := needsOf("a@v1.0.0", "c@v1.0.0")
	wantSelect(t, l, roots, needsOf("a@v1.1.0", "c@v1.0.0", "d@v1.2.0", "e@v1.0.0", "f@v1.0.0")...)
	wantClosed(t, l, needsOf("a@v1.1.0", "c@v1.0.0"), true) // it would do, but it is not what the chapter asks for
	wantSelect(t, l, needsOf("a@v1.0.0", "c@v1.0.0", "d@v1.0.0"), needsOf("a@v1.1.0", "c@v1.0.0", "d@v1.2.0", "e@v1.0.0", "f@v1.0.0")...)
	wantSelect(t, l, needsOf("a@v1.1.0", "c@v1.0.0"), needsOf("a@v1.1.0", "c@v1.0.0")...)
	wantFault(t, l[:6], roots, impl.SelNone)

	older := []impl.Entry{entryOf("m@v1.0.0", "n@v1.0.0"), entryOf("n@v1.0.0", "m@v1.1.0"), entryOf("m@v1.1.0", "n@v1.1.0"), entryOf("n@v1.1.0", "o@v1.0.0"), entryOf("o@v1.0.0", "m@v1.0.0", "n@v1.0.0")}
	wantReach(t, older, needsOf("m@v1.0.0"), needsOf("m@v1.0.0", "n@v1.0.0", "m@v1.1.0", "n@v1.1.0", "o@v1.0.0")...)
	wantSelect(t, older, needsOf("m@v1.0.0"), needsOf("m@v1.1.0", "n@v1.1.0", "o@v1.0.0")...)
	wantSelect(t, older, needsOf("o@v1.0.0"), needsOf("m@v1.1.0", "n@v1.1.0", "o@v1.0.0")...)
}

func TestEntriesInARing(t *testing.T) {
	two := []impl.Entry{entryOf("a@v1.0.0", "b@v1.0.0"), entryOf("b@v1.0.0", "a@v1.0.0")}
	wantReach(t, two, needsOf("a@v1.0.0"), needsOf("a@v1.0.0", "b@v1.0.0")...)
	wantReach(t, two, needsOf("b@v1.0.0"), needsOf("b@v1.0.0", "a@v1.0.0")...)
	wantSelect(t, two, needsOf("b@v1.0.0"), needsOf("a@v1.0.0", "b@v1.0.0")...)
	wantReach(t, two, needsOf("a@v1.0.0", "b@v1.0.0"), needsOf("a@v1.0.0", "b@v1.0.0")...)
	wantClosed(t, two, needsOf("b@v1.0.0", "a@v1.0.0"), true)
	wantClosed(t, two, needsOf("b@v1.0.0"), false)

	up := []impl.Entry{entryOf("a@v1.0.0", "b@v1.0.0"), entryOf("b@v1.0.0", "a@v1.1.0"), entryOf("a@v1.1.0", "b@v1.1.0"), entryOf("b@v1.1.0", "a@v1.0.0")}
	wantReach(t, up, needsOf("a@v1.0.0"), needsOf("a@v1.0.0", "b@v1.0.0", "a@v1.1.0", "b@v1.1.0")...)
	wantSelect(t, up, needsOf("b@v1.0.0"), needsOf("a@v1.1.0", "b@v1.1.0")...)

	for _, size := range []int{2, 3, 8, 59, 60} {
		ring := treeOf(size, 1, 1)
		ring[size-1].Needs = treeNames(0, 1)
		wantReach(t, ring, treeNames(0, 1), treeNames(0, size)...)
		wantSelect(t, ring, treeNames(0, 1), treeNames(0, size)...)
		last := treeName(size - 1)
		wantReach(t, ring, []impl.Need{last}, append([]impl.Need{last}, treeNames(0, size-1)...)...)
		wantSelect(t, ring, []impl.Need{last}, treeNames(0, size)...)
		wantClosed(t, ring, treeNames(0, size), true)
		wantClosed(t, ring, treeNames(1, size), false)
	}
}

// A row may be of just MaxReach needs, of whatever shape, and of one more it may not.
func TestHowLongTheRowIs(t *testing.T) {
	if impl.MaxReach != 60 || impl.SelGood != 0 || impl.SelForm != 1 || impl.SelNone != 2 || impl.SelMany != 3 {
		t.Error("a constant is another one")
	}
	for _, shape := range treeShapes {
		for _, size := range []int{shape.roots, shape.roots + 1, 21, 40, 58, 59, 60} {
			l := treeOf(size, min(shape.roots, size), shape.each)
			wantReach(t, l, treeNames(0, min(shape.roots, size)), treeNames(0, size)...)
			wantSelect(t, l, treeNames(0, min(shape.roots, size)), treeNames(0, size)...)
			wantClosed(t, l, treeNames(0, size), true)
		}
		for _, size := range []int{61, 62, 63, 68, 73, 120, 200} {
			wantFault(t, treeOf(size, shape.roots, shape.each), treeNames(0, shape.roots), impl.SelMany)
		}
	}
}

// Of the row's last entry no need is new, or one is.
func TestTheLastOfTheRow(t *testing.T) {
	for _, shape := range treeShapes {
		l, roots := treeOf(60, shape.roots, shape.each), treeNames(0, shape.roots)
		wantReach(t, withEntry(l, 59, impl.Entry{Path: l[59].Path, V: l[59].V, Needs: treeNames(0, 8)}), roots, treeNames(0, 60)...)
		wantReach(t, withEntry(l, 59, impl.Entry{Path: l[59].Path, V: l[59].V, Needs: treeNames(51, 59)}), roots, treeNames(0, 60)...)
		for _, needs := range [][]impl.Need{treeNames(60, 61), treeNames(60, 68), append(treeNames(52, 59), treeName(60)), append(needsOf("a@v1.0.0"), treeNames(0, 7)...)} {
			over := withEntry(l, 59, impl.Entry{Path: l[59].Path, V: l[59].V, Needs: needs})
			wantFault(t, over, roots, impl.SelMany) // whether or not the new one is there
			wantFault(t, append(over, treeOf(70, 1, 8)[60:]...), roots, impl.SelMany)
		}
		other := treeName(58)
		other.V.Minor++
		over := withEntry(l, 59, impl.Entry{Path: l[59].Path, V: l[59].V, Needs: []impl.Need{other}})
		wantFault(t, append(over, entriesOf([]impl.Need{other})...), roots, impl.SelMany) // another version is another need
	}
}

// Each entry of a row that is just not too long must be there, and be right.
func TestEachEntryOfTheRowIsAskedFor(t *testing.T) {
	for _, shape := range treeShapes {
		for _, size := range []int{shape.roots, 30, 60} {
			l, roots := treeOf(size, min(shape.roots, size), shape.each), treeNames(0, min(shape.roots, size))
			for i := range l {
				wantFault(t, withoutEntry(l, i), roots, impl.SelNone)
				for _, e := range spoiltEntries(l[i]) {
					wantFault(t, withEntry(l, i, e), roots, impl.SelNone)
				}
			}
		}
	}
}

// Where a row grows too long and an entry is not there, the one that is met first on the way through the row counts.
func TestTheFirstFaultOfTheRow(t *testing.T) {
	for _, shape := range treeShapes {
		for _, size := range []int{61, 62, 73, 100} {
			l, roots := treeOf(size, shape.roots, shape.each), treeNames(0, shape.roots)
			tooLong := (60 - shape.roots) / shape.each // who needs the 61st of the row
			for i := range l {
				want := impl.SelMany
				if i <= tooLong {
					want = impl.SelNone
				}
				wantFault(t, withoutEntry(l, i), roots, want)
				wantFault(t, withEntry(l, i, spoiltEntries(l[i])[i%13]), roots, want)
			}
			wantFault(t, l[:tooLong+1], roots, impl.SelMany)
			wantFault(t, l[:tooLong], roots, impl.SelNone)
		}
	}
}

// An entry that is not right has no needs that could make the row too long, or be lacking.
func TestNeedsOfWhatIsNotRight(t *testing.T) {
	l := treeOf(60, 20, 2)
	for _, n := range []int{9, 41, 42, 200, 1000} {
		e := impl.Entry{Path: "p000", V: treeName(0).V, Needs: treeNames(100, 100+n)}
		wantFault(t, []impl.Entry{e}, treeNames(0, 1), impl.SelNone)
		wantFault(t, withEntry(l, 0, e), treeNames(0, 20), impl.SelNone)
	}
	wantFault(t, []impl.Entry{{Path: "p000", V: treeName(0).V, Needs: treeNames(0, 1)}}, treeNames(0, 1), impl.SelNone)
}

// What the row does not come to may be lacking, or not right.
func TestWhatIsNotReached(t *testing.T) {
	l := selectWorld()
	for i, e := range l {
		for _, spoilt := range append(spoiltEntries(e), entryOf("x@v1.0.0", "y@v1.0.0"), impl.Entry{}, impl.Entry{Path: "a", V: impl.Version{Major: 2}}) {
			wantReachLikeModel(t, withEntry(l, i, spoilt), needsOf("a@v1.0.0"))
			wantReachLikeModel(t, withEntry(l, i, spoilt), needsOf("a@v1.0.0", "b@v1.2.0"))
		}
	}
	alone := []impl.Entry{{}, entryOf("a@v1.0.0"), entryOf("b@v1.0.0", "z@v1.0.0"), {Path: "a", V: impl.Version{Major: 1, Minor: 1}, Needs: make([]impl.Need, 3)}}
	wantReach(t, alone, needsOf("a@v1.0.0"), needsOf("a@v1.0.0")...)
	wantFault(t, alone, needsOf("a@v1.1.0"), impl.SelNone)
	wantFault(t, alone, needsOf("b@v1.0.0"), impl.SelNone)
	wantFault(t, alone, needsOf("a@v1.0.0", "b@v1.0.0"), impl.SelNone)
}

// A version that would do as well does not stand for one that is not there.
func TestOneNeedOfWhichThereIsNoEntry(t *testing.T) {
	l := []impl.Entry{entryOf("a@v1.0.0", "b@v1.1.0"), entryOf("b@v1.0.0"), entryOf("b@v1.1.0-rc.1"), entryOf("b@v1.1.1"), entryOf("b@v1.2.0"), entryOf("b/v2@v2.1.0"), entryOf("c@v1.0.0", "a@v1.0.0")}
	for _, roots := range [][]impl.Need{needsOf("a@v1.0.0"), needsOf("b@v1.1.0"), needsOf("c@v1.0.0"), needsOf("b@v1.2.0", "c@v1.0.0"), needsOf("a@v1.0.0", "b@v1.2.0")} {
		wantFault(t, l, roots, impl.SelNone)
		wantReachLikeModel(t, append(l, entryOf("b@v1.1.0")), roots)
	}
	wantSelect(t, append(l, entryOf("b@v1.1.0")), needsOf("a@v1.0.0", "b@v1.2.0"), needsOf("a@v1.0.0", "b@v1.2.0")...)
	wantClosed(t, l, needsOf("a@v1.0.0", "b@v1.2.0"), true) // to be closed the least version need not be there
	wantClosed(t, l, needsOf("a@v1.0.0", "b@v1.0.0"), false)
}

func TestNoEntriesToReach(t *testing.T) {
	for _, l := range [][]impl.Entry{nil, {}, make([]impl.Entry, 0, 5), selectWorld()[:0]} {
		for _, none := range [][]impl.Need{nil, {}, needsOf("a@v1.0.0")[:0]} {
			wantReach(t, l, none)
			wantSelect(t, l, none)
			wantReach(t, selectWorld(), none)
			wantSelect(t, selectWorld(), none)
		}
		wantFault(t, l, needsOf("a@v1.0.0"), impl.SelNone)
		wantFault(t, l, needsOf("a@v1.0.0", "b@v1.0.0"), impl.SelNone)
		wantFault(t, l, treeNames(0, 20), impl.SelNone)
		wantFault(t, l, treeNames(0, 21), impl.SelForm)
	}
}

// wrongRoots: needs that are not NeedsOk, each for a reason of its own; of those that can be, all are in selectWorld.
func wrongRoots() [][]impl.Need {
	lists := [][]impl.Need{
		needsOf("b@v1.1.0", "a@v1.0.0"), needsOf("d@v1.1.0", "d@v1.1.0"), needsOf("d@v1.1.0", "d@v1.3.0"), needsOf("d@v1.3.0", "d@v1.1.0"),
		needsOf("a@v1.0.0", "c@v1.2.0", "b@v1.1.0"), needsOf("a@v1.0.0", "b@v1.1.0", "b@v1.1.0", "c@v1.2.0"), needsOf("a@v1.0.0", "b@v1.1.0", "a@v1.0.0"),
		treeNames(0, 21), treeNames(0, 22), treeNames(0, 60), treeNames(0, 61), treeNames(0, 1000), make([]impl.Need, 1), make([]impl.Need, 21),
	}
	for _, wrong := range []impl.Need{{}, {Path: "a"}, {Path: "d", V: impl.Version{Major: 2}}, {Path: "d/v2", V: impl.Version{Major: 1}}, {Path: "D", V: impl.Version{Major: 1}}, {Path: "d", V: impl.Version{Major: 1, Minor: -1}}, {Path: "d", V: impl.Version{Major: 1, Minor: 1000001}}, {Path: "d", V: impl.Version{Major: 1, Pre: "01"}}, {Path: "d/", V: impl.Version{Major: 1}}, {V: impl.Version{Major: 1}}} {
		if wrong.Path != "a" { // a at v0.0.0 is right
			lists = append(lists, []impl.Need{wrong}, append(needsOf("a@v1.0.0", "b@v1.1.0"), wrong), append([]impl.Need{wrong}, needsOf("z@v1.0.0")...))
		}
	}
	for _, path := range wrongPaths {
		lists = append(lists, []impl.Need{{Path: path, V: impl.Version{Major: 1}}})
	}
	return lists
}

// SelForm comes ahead of any other fault, and of an answer: where the roots are there, not right, lacking, or too many.
func TestRootsThatAreNotRight(t *testing.T) {
	for _, roots := range wrongRoots() {
		for _, l := range [][]impl.Entry{nil, selectWorld(), selectWorld()[:3], entriesOf(roots), treeOf(100, 20, 8), append(entriesOf(roots), treeOf(200, 1, 8)...)} {
			wantFault(t, l, roots, impl.SelForm)
		}
	}
	for _, n := range []int{0, 1, 2, 19, 20} {
		l := treeOf(100, 20, 8)[20:]
		wantReach(t, append(l, treeOf(n, n, 1)...), treeNames(0, n), treeNames(0, n)...)
	}
}

// Of what is there twice the first one counts, right or not, and no need of another one.
func TestTwoEntriesOfOneName(t *testing.T) {
	first, second := entryOf("a@v1.0.0", "b@v1.0.0"), entryOf("a@v1.0.0", "c@v1.0.0")
	l := []impl.Entry{first, entryOf("b@v1.0.0"), second, entryOf("c@v1.0.0"), first}
	wantReach(t, l, needsOf("a@v1.0.0"), needsOf("a@v1.0.0", "b@v1.0.0")...)
	wantSelect(t, l, needsOf("a@v1.0.0"), needsOf("a@v1.0.0", "b@v1.0.0")...)
	wantReach(t, l[1:], needsOf("a@v1.0.0"), needsOf("a@v1.0.0", "c@v1.0.0")...)
	wantClosed(t, l, needsOf("a@v1.0.0", "b@v1.0.0"), true)
	wantClosed(t, l, needsOf("a@v1.0.0", "c@v1.0.0"), false)
	wantClosed(t, l[1:], needsOf("a@v1.0.0", "c@v1.0.0"), true)
	wantClosed(t, l[1:], needsOf("a@v1.0.0", "b@v1.0.0"), false)
	for _, spoilt := range spoiltEntries(first) {
		wantFault(t, append([]impl.Entry{spoilt}, l...), needsOf("a@v1.0.0"), impl.SelNone)
		wantReach(t, append(slices.Clone(l), spoilt), needsOf("a@v1.0.0"), needsOf("a@v1.0.0", "b@v1.0.0")...)
		wantReach(t, slices.Insert(slices.Clone(l), 1, spoilt), needsOf("a@v1.0.0"), needsOf("a@v1.0.0", "b@v1.0.0")...)
	}
	lacking := []impl.Entry{entryOf("a@v1.0.0", "z@v1.0.0"), entryOf("a@v1.0.0")}
	wantFault(t, lacking, needsOf("a@v1.0.0"), impl.SelNone)
	wantClosed(t, lacking, needsOf("a@v1.0.0"), false)
	slices.Reverse(lacking)
	wantReach(t, lacking, needsOf("a@v1.0.0"), needsOf("a@v1.0.0")...)
	wantClosed(t, lacking, needsOf("a@v1.0.0"), true)
}

// fittingRow: of versionRow those that fit a path without a Major, from the least to the latest.
func fittingRow(t *testing.T) []impl.Version {
	t.Helper()
	return slices.DeleteFunc(parsedVersions(t, versionRow), func(v impl.Version) bool { return v.Major > 1 })
}

// Of each two versions of one path the later one is selected, whichever is met first; many part in Pre alone.
func TestTheLatestOfTwoVersions(t *testing.T) {
	row := fittingRow(t)
	roots := needsOf("m@v1.0.0", "n@v1.0.0")
	for i, a := range row {
		for k, b := range row {
			l := []impl.Entry{{Path: "a", V: a}, {Path: "a", V: b}, {Path: "m", V: roots[0].V, Needs: []impl.Need{{Path: "a", V: a}}}, {Path: "n", V: roots[0].V, Needs: []impl.Need{{Path: "a", V: b}}}}
			want := append([]impl.Need{{Path: "a", V: row[max(i, k)]}}, roots...)
			wantSelect(t, l, roots, want...)
			wantCovers(t, want[:1], []impl.Need{{Path: "a", V: a}, {Path: "a", V: b}}, true)
			wantCovers(t, []impl.Need{{Path: "a", V: a}}, []impl.Need{{Path: "a", V: b}}, i >= k)
			wantClosed(t, l, append([]impl.Need{{Path: "a", V: a}}, roots...), i >= k)
		}
	}
}

func TestTheLatestOfManyVersions(t *testing.T) {
	row := fittingRow(t)
	for from := 0; from+8 <= len(row); from += 3 {
		var l []impl.Entry
		var reached []impl.Need
		for i, at := range []int{5, 2, 7, 0, 6, 3, 1, 4} {
			root := impl.Need{Path: fmt.Sprintf("r%d", i), V: impl.Version{Major: 1}}
			a := impl.Need{Path: "a", V: row[from+at]}
			l = append(l, impl.Entry{Path: root.Path, V: root.V, Needs: []impl.Need{a}}, impl.Entry{Path: "a", V: a.V})
			reached = append(reached, root)
		}
		roots := slices.Clone(reached)
		for i := range roots {
			reached = append(reached, l[2*i].Needs...)
		}
		wantReach(t, l, roots, reached...)
		wantSelect(t, l, roots, append([]impl.Need{{Path: "a", V: row[from+7]}}, roots...)...)
	}
}

func TestVersionsThatPartInPre(t *testing.T) {
	l := []impl.Entry{
		entryOf("a@v1.0.0-rc.1", "x@v1.0.0"), entryOf("a@v1.0.0"), entryOf("a@v1.0.0-rc.2", "x@v1.0.0-a"), entryOf("a@v1.0.0-rc.10"),
		entryOf("m@v1.0.0", "a@v1.0.0-rc.2"), entryOf("n@v1.0.0", "a@v1.0.0-rc.10"), entryOf("o@v1.0.0", "a@v1.0.0"), entryOf("x@v1.0.0"), entryOf("x@v1.0.0-a"),
	}
	wantSelect(t, l, needsOf("a@v1.0.0-rc.1", "o@v1.0.0"), needsOf("a@v1.0.0", "o@v1.0.0", "x@v1.0.0")...)
	wantSelect(t, l, needsOf("a@v1.0.0-rc.2", "n@v1.0.0"), needsOf("a@v1.0.0-rc.10", "n@v1.0.0", "x@v1.0.0-a")...)
	wantSelect(t, l, needsOf("m@v1.0.0", "n@v1.0.0"), needsOf("a@v1.0.0-rc.10", "m@v1.0.0", "n@v1.0.0", "x@v1.0.0-a")...)
	wantSelect(t, l, needsOf("a@v1.0.0-rc.1", "m@v1.0.0", "n@v1.0.0", "o@v1.0.0"), needsOf("a@v1.0.0", "m@v1.0.0", "n@v1.0.0", "o@v1.0.0", "x@v1.0.0")...)
	wantReach(t, l, needsOf("a@v1.0.0-rc.1", "m@v1.0.0"), needsOf("a@v1.0.0-rc.1", "m@v1.0.0", "x@v1.0.0", "a@v1.0.0-rc.2", "x@v1.0.0-a")...)
	wantCovers(t, needsOf("a@v1.0.0"), needsOf("a@v1.0.0-rc.1"), true)
	wantCovers(t, needsOf("a@v1.0.0-rc.1"), needsOf("a@v1.0.0"), false)
	wantCovers(t, needsOf("a@v1.0.0-rc.10"), needsOf("a@v1.0.0-rc.2"), true)
	wantCovers(t, needsOf("a@v1.0.1-0"), needsOf("a@v1.0.0"), true)
}

// What is selected ascends by the bytes of the paths, also where the row goes down; one with another Major is another path.
func TestSelectedPathsAscend(t *testing.T) {
	names := needsOfPaths(pathRow...)
	l := entriesOf(names)
	for i := range l {
		l[i].Needs = names[max(i-1, 0):i]
	}
	for i := range names {
		down := slices.Clone(names[:i+1])
		slices.Reverse(down)
		wantReach(t, l, names[i:i+1], down...)
		wantSelect(t, l, names[i:i+1], names[:i+1]...)
	}
}

func TestCovers(t *testing.T) {
	list := needsOf("a@v1.2.0", "b@v0.1.0", "c/v2@v2.0.0", "d@v1.0.0-rc.2")
	for _, name := range []string{"a@v1.2.0", "a@v1.1.0", "a@v1.1.9", "a@v0.9.0", "a@v1.2.0-rc.1", "b@v0.1.0", "b@v0.0.9", "c/v2@v2.0.0", "c/v2@v2.0.0-0", "d@v1.0.0-rc.2", "d@v1.0.0-rc.1", "d@v1.0.0-10", "d@v0.9.0"} {
		wantCovers(t, list, needsOf(name), true)
		wantCovers(t, list, append(needsOf(name), list...), true)
	}
	for _, name := range []string{"a@v1.2.1", "a@v1.3.0", "a@v1.2.1-rc.1", "b@v0.1.1", "b@v1.0.0", "c/v2@v2.0.1", "c@v1.0.0", "d@v1.0.0", "d@v1.0.0-rc.10", "e@v0.0.0", "a/v2@v2.0.0", "aa@v1.0.0", "c/v3@v3.0.0"} {
		wantCovers(t, list, needsOf(name), false)
		wantCovers(t, list, append(needsOf(name), list...), false)
		wantCovers(t, list, append(slices.Clone(list), needsOf(name)...), false)
		wantCovers(t, list, slices.Insert(slices.Clone(list), 2, needsOf(name)...), false)
	}
	for i := range list {
		wantCovers(t, list[i:], list[i:], true)
		wantCovers(t, list[i+1:], list[i:], false)
		wantCovers(t, without(list, i), list, false)
		wantCovers(t, list, without(list, i), true)
	}
}

// No order is asked of either list, nor how often a path is in it.
func TestCoversOfSeveralOfOnePath(t *testing.T) {
	l := needsOf("b@v1.0.0", "a@v1.0.0", "a@v1.3.0", "a@v1.1.0", "b@v0.1.0")
	wantCovers(t, l, needsOf("a@v1.3.0"), true)
	wantCovers(t, l, needsOf("a@v1.2.0", "b@v1.0.0", "a@v1.0.0", "a@v1.2.0"), true)
	wantCovers(t, l, needsOf("a@v1.2.0", "b@v1.0.0", "a@v1.3.1"), false)
	wantCovers(t, l, needsOf("b@v0.2.0", "b@v0.0.0", "b@v1.0.1"), false)
	wantCovers(t, l, l, true)
	for i := range l {
		wantCovers(t, l[i:i+1], l[i:i+1], true)
		wantCovers(t, l[i:], l[:i], coversByModel(l[i:], l[:i]))
		wantCovers(t, l[:i], l[i:], coversByModel(l[:i], l[i:]))
	}
	wantCovers(t, needsOf("a@v1.0.0", "a@v1.0.0"), needsOf("a@v1.0.0", "a@v1.0.0", "a@v1.0.0"), true)
}

func TestAllSmallListsCover(t *testing.T) {
	some := needsOf("a@v1.0.0", "a@v1.1.0-rc.2", "a@v1.1.0-rc.10", "a@v1.1.0", "b@v1.0.0", "b@v1.0.1")
	lists := [][]impl.Need{nil}
	for from := 0; len(lists[from]) < 3; from++ {
		for _, n := range some {
			lists = append(lists, append(slices.Clone(lists[from]), n))
		}
	}
	for _, list := range lists {
		for _, needs := range lists {
			if got := impl.Covers(list, needs); got != coversByModel(list, needs) {
				t.Fatalf("Covers of %v by %v = %v", needs, list, got)
			}
		}
	}
}

func TestCoversAndClosedOfNothing(t *testing.T) {
	for _, none := range [][]impl.Need{nil, {}, make([]impl.Need, 0, 3), needsOf("z@v1.0.0")[:0]} {
		for _, list := range [][]impl.Need{nil, {}, needsOf("a@v1.0.0"), make([]impl.Need, 2)} {
			wantCovers(t, list, none, true)
			wantCovers(t, none, list, len(list) == 0)
		}
		for _, l := range [][]impl.Entry{nil, {}, selectWorld(), make([]impl.Entry, 2)} {
			wantClosed(t, l, none, true)
		}
	}
	wantClosed(t, nil, needsOf("a@v1.0.0"), false)
	wantClosed(t, []impl.Entry{}, make([]impl.Need, 1), false)
	wantClosed(t, make([]impl.Entry, 1), make([]impl.Need, 1), true)
	wantClosed(t, make([]impl.Entry, 1), make([]impl.Need, 3), true)
}

func TestClosed(t *testing.T) {
	l := selectWorld()
	for names, want := range map[string]bool{
		"a@v1.0.0 b@v1.1.0 c@v1.2.0 d@v1.3.0": true,
		"d@v1.3.0 c@v1.2.0 b@v1.1.0 a@v1.0.0": true,
		"a@v1.0.0 b@v1.2.0 c@v1.2.0 d@v1.4.0": true,
		"a@v1.0.0 b@v1.2.0 c@v1.2.0 d@v1.9.0": true,
		"a@v1.0.0 b@v1.2.0 c@v1.2.0 d@v1.3.0": false,
		"a@v1.0.0 b@v1.1.0 c@v1.2.0 d@v1.1.0": false,
		"a@v1.0.0 b@v1.1.0 c@v1.2.0":          false,
		"a@v1.0.0 b@v1.1.0 d@v1.3.0":          false,
		"a@v1.0.0 c@v1.2.0 d@v1.3.0":          false,
		"b@v1.1.0 c@v1.2.0 d@v1.3.0":          true,
		"b@v1.1.0 b@v1.2.0 d@v1.3.0":          false,
		"b@v1.1.0 b@v1.2.0 d@v1.3.0 d@v1.4.0": true,
		"c@v1.2.0 d@v1.1.0 d@v1.1.0 c@v1.2.0": true,
		"d@v1.1.0 d@v1.9.0 d@v1.3.0":          true,
		"d@v1.2.0":                            false,
		"d@v1.1.0 d@v1.2.0":                   false,
		"d@v1.1.0 e@v1.0.0":                   false,
		"a@v1.0.0 b@v1.1.0 c@v1.2.0 d@v1.5.0": false,
	} {
		wantClosed(t, l, needsOf(strings.Fields(names)...), want)
		wantClosedLikeModel(t, l, needsOf(strings.Fields(names)...))
	}
}

// Of what Select answers, each is asked for: the same with one left out is not closed, where another one needs its path.
func TestClosedWithOneLeftOut(t *testing.T) {
	for _, shape := range treeShapes {
		l := treeOf(60, shape.roots, shape.each)
		chosen, _ := impl.Select(l, treeNames(0, shape.roots))
		wantClosed(t, l, chosen, true)
		for i := range chosen {
			wantClosed(t, l, without(chosen, i), i < shape.roots)
			wantCovers(t, without(chosen, i), treeNames(0, shape.roots), i >= shape.roots)
			wantClosed(t, withoutEntry(l, i), chosen, false)
		}
	}
}

// Covers and Closed ask of nothing whether it is right: they go by path, LessVersion and the first entry alone.
func TestCoversOfWhatIsNotRight(t *testing.T) {
	for _, path := range []string{"a", "", "A", "a//b", "a@v1.0.0", "\xff"} {
		for i, a := range oddVersions {
			for k, b := range oddVersions {
				have, need := []impl.Need{{Path: path, V: a}}, []impl.Need{{Path: path, V: b}}
				wantCovers(t, have, need, i >= k)
				e := impl.Entry{Path: "M", V: impl.Version{Minor: -7}, Needs: need}
				l := []impl.Entry{{Path: path, V: a}, e}
				wantClosed(t, l, append(have, impl.Need{Path: e.Path, V: e.V}), i >= k)
			}
		}
	}
	names := strangeNames()
	wantCovers(t, names, names, true)
	for i, n := range names {
		wantCovers(t, names[i:i+1], []impl.Need{{Path: n.Path + "x", V: n.V}}, false)
		wantCovers(t, names[i:i+1], append(slices.Clone(names[i:i+1]), names[i]), true)
	}
}

func TestClosedOfWhatIsNotRight(t *testing.T) {
	names := strangeNames()
	l := entriesOf(names) // the i-th needs the place i
	wantClosed(t, l, names, false)
	place := impl.Need{Path: "place", V: impl.Version{Minor: len(names) - 1}}
	wantClosed(t, l, append(slices.Clone(names), place), false)
	l = append(l, impl.Entry{Path: place.Path, V: place.V})
	wantClosed(t, l, append(slices.Clone(names), place), true)
	for i, n := range names {
		low := impl.Need{Path: "place", V: impl.Version{Minor: i - 1}}
		wantClosed(t, append(l, impl.Entry{Path: low.Path, V: low.V}), []impl.Need{n, low}, false)
		wantClosed(t, withoutEntry(l, i), []impl.Need{n, place}, false)
		wantClosed(t, l, []impl.Need{n, place}, true)
	}
	for _, e := range spoiltEntries(entryOf("m@v1.0.0")) {
		list := append(needsOf("m@v1.0.0"), e.Needs...)
		all := append(entriesOf(e.Needs), e)
		for i := range all {
			if i < len(e.Needs) {
				all[i].Needs = nil
			}
		}
		if e.Needs[0].Path == "m" { // what needs itself at that version is closed, and at a later one it is not
			wantClosed(t, []impl.Entry{e}, needsOf("m@v1.0.0"), e.Needs[0].V.Minor == 0)
			continue
		}
		wantClosed(t, all, list, true)
		wantClosed(t, all, list[:1], false)
	}
	many := impl.Entry{Path: "m", V: impl.Version{Major: 1}, Needs: treeNames(0, 300)}
	l = append(treeOf(300, 300, 1), many)
	list := append(treeNames(0, 300), needsOf("m@v1.0.0")...)
	wantClosed(t, l, list, true)
	wantClosed(t, l, list[1:], false)
	wantClosed(t, l, without(list, 299), false)
}

// numbers answers with numbers below n, the same ones each time that the tests run.
func numbers(seed uint32) func(n int) int {
	state := seed
	return func(n int) int {
		state = state*1664525 + 1013904223
		return int(state>>8) % n
	}
}

// mixedWorld: entries of so many paths, each in several versions, and roots. One in some of the entries is lacking, there twice, or not right.
func mixedWorld(paths, minors, few, rare int, below func(int) int) ([]impl.Entry, []impl.Need) {
	name := func(path int) impl.Need {
		return impl.Need{Path: fmt.Sprintf("p%02d", path), V: impl.Version{Major: 1, Minor: below(minors), Pre: modelPres[len(modelPres)-1-below(2)*below(3)]}}
	}
	needs := func(but, most int) []impl.Need {
		var l []impl.Need
		for path := range paths {
			if path != but && len(l) < most && below(few) == 0 {
				l = append(l, name(path))
			}
		}
		return l
	}
	var l []impl.Entry
	for path := range paths {
		for minor := range minors {
			for back := range 3 {
				e := impl.Entry{Path: fmt.Sprintf("p%02d", path), V: impl.Version{Major: 1, Minor: minor, Pre: modelPres[len(modelPres)-1-back]}, Needs: needs(path, 8)}
				other := impl.Entry{Path: e.Path, V: e.V, Needs: needs(path, 8)}
				switch below(rare) {
				case 0:
					continue
				case 1:
					e = spoiltEntries(e)[below(13)]
				case 2:
					l = append(l, other)
				}
				l = append(l, e)
			}
		}
	}
	for i := range l { // out of order
		k := below(i + 1)
		l[i], l[k] = l[k], l[i]
	}
	return l, needs(-1, 20)
}

// mixedWorlds hands each of many worlds to ask: small ones and great ones, of which each code is met.
func mixedWorlds(ask func(l []impl.Entry, roots []impl.Need)) {
	below := numbers(16)
	for i := range 4000 {
		paths, minors := 2+below(5), 1+below(3)
		if i%10 == 0 {
			paths, minors = 8+below(30), 1+below(4)
		}
		l, roots := mixedWorld(paths, minors, 2+below(paths), 20+below(400), below)
		ask(l, roots)
	}
}

func TestMixedWorldsAreReachedLikeTheModel(t *testing.T) {
	var met [4]int
	mixedWorlds(func(l []impl.Entry, roots []impl.Need) {
		row, code := wantReachLikeModel(t, l, roots)
		met[code]++
		chosen := latestByModel(row)
		wantClosedLikeModel(t, l, chosen)
		wantClosedLikeModel(t, l, row)
		for i := range chosen {
			wantClosedLikeModel(t, l, without(chosen, i))
			wantCovers(t, without(chosen, i), roots, coversByModel(without(chosen, i), roots))
		}
		if len(roots) > 1 {
			met[impl.SelForm]++
			slices.Reverse(roots)
			wantFault(t, l, roots, impl.SelForm)
		}
	})
	for code, n := range met {
		if n < 100 {
			t.Errorf("code %d was met %d times", code, n)
		}
	}
}

// neededIn: the roots, and what each entry of the row needs.
func neededIn(l []impl.Entry, roots, row []impl.Need) []impl.Need {
	needed := slices.Clone(roots)
	for _, n := range row {
		e, _ := impl.FindEntry(l, n.Path, n.V)
		needed = append(needed, e.Needs...)
	}
	return needed
}

// Promise 16, in the program's own words: what is selected covers the roots and is closed; each of it is needed, at just this version, and no other version of its path that is needed is later.
func TestWhatIsSelectedIsNeeded(t *testing.T) {
	good := 0
	mixedWorlds(func(l []impl.Entry, roots []impl.Need) {
		chosen, code := impl.Select(l, roots)
		row, same := impl.Reach(l, roots)
		if code != same || code != impl.SelGood {
			return
		}
		good++
		needed := neededIn(l, roots, row)
		if !impl.Covers(chosen, roots) || !impl.Closed(l, chosen) || !impl.Covers(chosen, needed) {
			t.Errorf("what is selected of %v does not do: %v", roots, chosen)
		}
		for i, n := range chosen {
			if !slices.Contains(needed, n) || !slices.Contains(row, n) {
				t.Errorf("%q, which is selected of %v, is not needed", nameOf(n), roots)
			}
			if impl.Covers(without(chosen, i), needed) {
				t.Errorf("without %q all of %v is covered, too", nameOf(n), roots)
			}
			if i > 0 && chosen[i-1].Path >= n.Path {
				t.Errorf("%q is behind %q", nameOf(n), nameOf(chosen[i-1]))
			}
		}
	})
	if good < 1000 {
		t.Errorf("%d worlds alone have all that is needed", good)
	}
}

// No earlier version of what is selected would do: it is the least.
func TestWhatIsSelectedIsTheLeast(t *testing.T) {
	mixedWorlds(func(l []impl.Entry, roots []impl.Need) {
		chosen, code := impl.Select(l, roots)
		row, _ := impl.Reach(l, roots)
		if code != impl.SelGood {
			return
		}
		needed := neededIn(l, roots, row)
		for i, n := range chosen {
			for _, v := range impl.VersionsOf(l, n.Path) {
				other := slices.Clone(chosen)
				other[i].V = v
				if impl.Covers(other, needed) == laterByModel(n.V, v) {
					t.Errorf("with %v instead of %q, what is needed by %v is covered or not, the other way", v, nameOf(n), roots)
				}
			}
		}
	})
}

// No limit is named for how many entries there are.
func TestReachAmongManyEntries(t *testing.T) {
	l := slices.Concat(treeOf(3000, 3000, 1), []impl.Entry{entryOf("a@v1.0.0", "p002@v1.2.0")})
	for _, i := range []int{0, 59, 60, 61, 200, 999, 1000, 2999} {
		wantReach(t, l, []impl.Need{treeName(i)}, treeName(i))
	}
	wantReach(t, l, needsOf("a@v1.0.0"), append(needsOf("a@v1.0.0"), treeName(2))...)
	wantFault(t, l[:3000], needsOf("a@v1.0.0"), impl.SelNone)
	wantClosed(t, l, treeNames(0, 3000), true)
	wantClosed(t, l, treeNames(0, 3001), false)
	wantCovers(t, treeNames(0, 3000), treeNames(0, 3000), true)
	wantCovers(t, treeNames(0, 3000), treeNames(0, 3001), false)
}

func TestSelectLeavesItsListsAlone(t *testing.T) {
	sought := needsOf("e@v1.0.0", "y@v1.0.0")
	for _, roots := range [][]impl.Need{nil, needsOf("a@v1.0.0"), needsOf("a@v1.0.0", "b@v1.2.0"), needsOf("b@v1.1.0", "c@v1.2.0", "d@v1.9.0"), needsOf("a@v1.0.0", "z@v1.0.0"), needsOf("b@v1.1.0", "a@v1.0.0"), treeNames(0, 20)} {
		for _, plain := range [][]impl.Entry{nil, selectWorld(), treeOf(61, 20, 8), treeOf(60, 20, 2)} {
			l, given := sparedEntries(plain, sought...), sparedNeeds(roots, sought...)
			kept, keptNeeds := wholeEntries(l), slices.Clone(given[:cap(given)])
			row, _ := wantReachLikeModel(t, l, given)
			wantClosedLikeModel(t, l, given)
			wantClosedLikeModel(t, l, sparedNeeds(row, sought...))
			wantCovers(t, given, given, true)
			wantCovers(t, given, append(slices.Clone(given), sought...), false) // what is behind the list is not read
			wantFault(t, l, sought, impl.SelNone)
			wantClosed(t, l, sought, false)
			if !slices.EqualFunc(wholeEntries(l), kept, sameEntry) || !slices.Equal(given[:cap(given)], keptNeeds) {
				t.Errorf("%d entries, %d roots, or the room behind them, were written into", len(plain), len(roots))
			}
		}
	}
}

// What is answered may be written over: neither a list nor a later answer is another one for that.
func TestSelectedNeedsShareNoList(t *testing.T) {
	spare := needsOf("y@v1.0.0")
	for _, plain := range [][]impl.Entry{selectWorld(), treeOf(60, 20, 2)} {
		for _, roots := range [][]impl.Need{nil, needsOf("a@v1.0.0"), needsOf("a@v1.0.0", "b@v1.2.0"), needsOf("d@v1.1.0"), treeNames(0, 20), treeNames(19, 20)} {
			l, given := sparedEntries(plain, spare...), sparedNeeds(roots, spare...)
			kept, keptNeeds := wholeEntries(l), slices.Clone(given[:cap(given)])
			row, _ := impl.Reach(l, given)
			chosen, _ := impl.Select(l, given)
			again, _ := impl.Reach(l, given)
			overwrittenNeeds(row)
			overwrittenNeeds(chosen)
			want, _ := wantReachLikeModel(t, l, given)
			if !slices.Equal(again, want) {
				t.Errorf("what is reached hangs on another answer: %v", again)
			}
			if !slices.EqualFunc(wholeEntries(l), kept, sameEntry) || !slices.Equal(given[:cap(given)], keptNeeds) {
				t.Error("an answer shares memory with the entries, or with the roots")
			}
		}
	}
}

// An answer stays as it was when the lists that it came of are written over.
func TestSelectedNeedsOutliveTheirLists(t *testing.T) {
	l, roots := selectWorld(), needsOf("a@v1.0.0", "b@v1.2.0")
	row, _ := impl.Reach(l, roots)
	chosen, _ := impl.Select(l, roots)
	for i := range l {
		overwrittenNeeds(l[i].Needs)
		l[i] = impl.Entry{Path: "other"}
	}
	overwrittenNeeds(roots)
	want, _ := reachByModel(selectWorld(), needsOf("a@v1.0.0", "b@v1.2.0"))
	if !slices.Equal(row, want) || !slices.Equal(chosen, latestByModel(want)) {
		t.Errorf("what was answered is now %v and %v", row, chosen)
	}
}

func TestSelectedNeedsShareNoText(t *testing.T) {
	need := func(path, pre string) impl.Need {
		return impl.Need{Path: strings.Clone(path), V: impl.Version{Major: 1, Pre: strings.Clone(pre)}}
	}
	root, other, deep := need("root", "rc.1"), need("other", "rc.2"), need("deep", "rc.3")
	l := []impl.Entry{
		{Path: strings.Clone("root"), V: need("", "rc.1").V, Needs: []impl.Need{need("deep", "rc.3"), other}},
		{Path: strings.Clone("other"), V: need("", "rc.2").V, Needs: []impl.Need{deep}},
		{Path: strings.Clone("deep"), V: need("", "rc.3").V},
	}
	row, _ := impl.Reach(l, []impl.Need{root})
	chosen, _ := impl.Select(l, []impl.Need{root})
	if len(row) != 3 || len(chosen) != 3 {
		t.Fatal(row, chosen)
	}
	for _, n := range slices.Concat(row, chosen) {
		for _, given := range append(namesIn(l), root) {
			for _, whole := range []string{given.Path, given.V.Pre} {
				if within(n.Path, whole) || within(n.V.Pre, whole) {
					t.Errorf("%q, which is answered, shares text with an argument", nameOf(n))
				}
			}
		}
	}
}
