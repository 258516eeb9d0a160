package tests

import (
	"fmt"
	"math"
	"slices"
	"strings"
	"testing"

	"loop.example/g00233/impl"
)

// entryOf gives the entry of a name, with the needs of the other names, by the model.
func entryOf(name string, needs ...string) impl.Entry {
	n := needsOf(name)[0]
	return impl.Entry{Path: n.Path, V: n.V, Needs: needsOf(needs...)}
}

// plainEntries: several paths and versions, in no order of their names.
func plainEntries() []impl.Entry {
	return []impl.Entry{
		entryOf("c@v1.0.0", "a@v1.0.0", "b@v0.2.0-rc.1"),
		entryOf("a@v1.2.0", "b@v0.1.0"),
		entryOf("b@v0.1.0"),
		entryOf("a@v1.0.0"),
		entryOf("a/v2@v2.0.0", "a@v1.0.0", "b@v0.1.0", "c@v1.0.0"),
		entryOf("a@v1.1.0", "c@v1.0.0"),
		entryOf("b@v0.2.0-rc.1", "d@v0.0.0"),
	}
}

// twiceEntries: names that are there twice and three times, each time with other needs.
func twiceEntries() []impl.Entry {
	return []impl.Entry{
		entryOf("b@v1.0.0", "x@v1.0.0"),
		entryOf("a@v1.0.0", "x@v1.1.0", "y@v1.0.0"),
		entryOf("a@v1.1.0"),
		entryOf("a@v1.0.0"),
		entryOf("b@v1.0.0"),
		entryOf("a@v1.1.0", "x@v1.2.0"),
		entryOf("a@v1.0.0", "z@v1.0.0"),
	}
}

// strangeNames: names of which no two are the same, and hardly one is right: each parts from another one in one place alone.
func strangeNames() []impl.Need {
	base := impl.Need{Path: "a", V: impl.Version{Major: 1, Minor: 2, Patch: 3, Pre: "rc.1"}}
	names := []impl.Need{base, {}}
	for _, path := range append([]string{"ab", "a/v2", "b", "a@v1.2.3-rc.1"}, wrongPaths...) {
		names = append(names, impl.Need{Path: path, V: base.V})
	}
	for _, pre := range append([]string{"rc.2", "rc.10", "rc", "rc.1.0", "rc.-1", "RC.1"}, wrongPres...) {
		names = append(names, impl.Need{Path: base.Path, V: impl.Version{Major: 1, Minor: 2, Patch: 3, Pre: pre}})
	}
	names = append(names, impl.Need{Path: base.Path, V: impl.Version{Major: 1, Minor: 2, Patch: 3}})
	for _, n := range append([]int{0, 4, 10}, wrongNumbers...) {
		major, minor, patch := base, base, base
		major.V.Major, minor.V.Minor, patch.V.Patch = n, n, n
		names = append(names, major, minor, patch)
	}
	return names
}

// keyByModel writes a name down in a way that tells any two apart, right or not.
func keyByModel(path string, v impl.Version) string {
	return fmt.Sprintf("%q %d %d %d %q", path, v.Major, v.Minor, v.Patch, v.Pre)
}

// placesByModel: of each name the places where it is, in order.
func placesByModel(l []impl.Entry) map[string][]int {
	places := map[string][]int{}
	for i, e := range l {
		key := keyByModel(e.Path, e.V)
		places[key] = append(places[key], i)
	}
	return places
}

func findByModel(l []impl.Entry, path string, v impl.Version) (impl.Entry, bool) {
	places := placesByModel(l)[keyByModel(path, v)]
	if len(places) == 0 {
		return impl.Entry{}, false
	}
	return l[places[0]], true
}

// versionsByModel takes out, of a copy, all that has another path.
func versionsByModel(l []impl.Entry, path string) []impl.Version {
	left := slices.DeleteFunc(slices.Clone(l), func(e impl.Entry) bool { return e.Path != path })
	var versions []impl.Version
	for i := range left {
		versions = append(versions, left[i].V)
	}
	return versions
}

func lackingByModel(l []impl.Entry, needs []impl.Need) []impl.Need {
	places := placesByModel(l)
	return slices.DeleteFunc(slices.Clone(needs), func(n impl.Need) bool { return len(places[keyByModel(n.Path, n.V)]) > 0 })
}

func wantFound(t *testing.T, l []impl.Entry, path string, v impl.Version, want impl.Entry) {
	t.Helper()
	if e, ok := impl.FindEntry(l, path, v); !ok || !sameEntry(e, want) {
		t.Errorf("FindEntry of %.300q in %.500q = %.300q, %v; want %.300q, true", keyByModel(path, v), fmt.Sprint(l), fmt.Sprint(e), ok, fmt.Sprint(want))
	}
}

func wantNotFound(t *testing.T, l []impl.Entry, path string, v impl.Version) {
	t.Helper()
	if e, ok := impl.FindEntry(l, path, v); ok || !sameEntry(e, impl.Entry{}) {
		t.Errorf("FindEntry of %.300q in %.500q = %.300q, %v; want the zero one, false", keyByModel(path, v), fmt.Sprint(l), fmt.Sprint(e), ok)
	}
}

func wantVersions(t *testing.T, l []impl.Entry, path string, want ...impl.Version) {
	t.Helper()
	if got := impl.VersionsOf(l, path); !slices.Equal(got, want) {
		t.Errorf("VersionsOf %.300q in %.500q = %.300q; want %.300q", path, fmt.Sprint(l), fmt.Sprint(got), fmt.Sprint(want))
	}
}

func wantLacking(t *testing.T, l []impl.Entry, needs []impl.Need, want ...impl.Need) {
	t.Helper()
	if got := impl.Lacking(l, needs); !slices.Equal(got, want) {
		t.Errorf("Lacking of %.300q in %.500q = %.300q; want %.300q", fmt.Sprint(needs), fmt.Sprint(l), fmt.Sprint(got), fmt.Sprint(want))
	}
}

func wantFoundLikeModel(t *testing.T, l []impl.Entry, n impl.Need) {
	t.Helper()
	if want, ok := findByModel(l, n.Path, n.V); ok {
		wantFound(t, l, n.Path, n.V, want)
	} else {
		wantNotFound(t, l, n.Path, n.V)
	}
}

// wantListLikeModel asks of the list all that these needs name.
func wantListLikeModel(t *testing.T, l []impl.Entry, needs []impl.Need) {
	t.Helper()
	for _, n := range needs {
		wantFoundLikeModel(t, l, n)
		wantVersions(t, l, n.Path, versionsByModel(l, n.Path)...)
	}
	wantLacking(t, l, needs, lackingByModel(l, needs)...)
}

// namesIn: the name of each entry, and what each needs.
func namesIn(l []impl.Entry) []impl.Need {
	var names []impl.Need
	for _, e := range l {
		names = append(names, impl.Need{Path: e.Path, V: e.V})
		names = append(names, e.Needs...)
	}
	return names
}

// entriesOf: an entry of each name; by what it needs it can be told from the others.
func entriesOf(names []impl.Need) []impl.Entry {
	var l []impl.Entry
	for i, n := range names {
		l = append(l, impl.Entry{Path: n.Path, V: n.V, Needs: []impl.Need{{Path: "place", V: impl.Version{Minor: i}}}})
	}
	return l
}

// smallEntryLists: all lists of at most so many of a few entries, two of which have one name.
func smallEntryLists(most int) [][]impl.Entry {
	some := []impl.Entry{entryOf("a@v1.0.0"), entryOf("a@v1.0.0", "b@v1.0.0"), entryOf("a@v1.1.0", "c@v1.0.0"), entryOf("b@v1.0.0"), entryOf("b@v1.1.0", "a@v1.0.0", "c@v1.1.0")}
	lists := [][]impl.Entry{nil}
	for from := 0; len(lists[from]) < most; from++ {
		for _, e := range some {
			lists = append(lists, append(slices.Clone(lists[from]), e))
		}
	}
	return lists
}

func versionsOfNames(names ...string) []impl.Version {
	var versions []impl.Version
	for _, n := range needsOf(names...) {
		versions = append(versions, n.V)
	}
	return versions
}

// Promise 15: an entry that is found is there.
func TestFindEntryByItsName(t *testing.T) {
	l := plainEntries()
	for _, e := range l {
		wantFound(t, l, e.Path, e.V, e)
	}
	wantFound(t, l, "c", parsedVersion(t, "v1.0.0"), entryOf("c@v1.0.0", "a@v1.0.0", "b@v0.2.0-rc.1"))
	wantFound(t, l, "a", parsedVersion(t, "v1.0.0"), entryOf("a@v1.0.0"))
	wantFound(t, l, "a/v2", parsedVersion(t, "v2.0.0"), entryOf("a/v2@v2.0.0", "a@v1.0.0", "b@v0.1.0", "c@v1.0.0"))
	wantFound(t, l, "b", parsedVersion(t, "v0.2.0-rc.1"), entryOf("b@v0.2.0-rc.1", "d@v0.0.0"))
	for i, e := range l {
		wantFound(t, l[i:], e.Path, e.V, e)
		wantNotFound(t, l[i+1:], e.Path, e.V)
		wantNotFound(t, l[:i], e.Path, e.V)
	}
}

func TestWhatIsNotFound(t *testing.T) {
	l := plainEntries()
	for _, name := range []string{"a@v1.3.0", "a@v0.0.0", "b@v1.0.0", "b@v0.2.0", "b@v0.2.0-rc.2", "c@v1.0.1", "a/v2@v2.0.1", "a/v3@v3.0.0", "aa@v1.0.0", "d@v0.0.0", "c/a@v1.0.0"} {
		n := needsOf(name)[0]
		wantNotFound(t, l, n.Path, n.V)
	}
	wantNotFound(t, l, "", impl.Version{})
	wantNotFound(t, l, "a", impl.Version{})
	wantNotFound(t, l, "", l[0].V)
	wantNotFound(t, l, "a@v1.0.0", impl.Version{})
	wantNotFound(t, l, "a@v1.0.0", l[3].V)
}

func TestVersionsOfAPath(t *testing.T) {
	l := plainEntries()
	wantVersions(t, l, "a", versionsOfNames("a@v1.2.0", "a@v1.0.0", "a@v1.1.0")...)
	wantVersions(t, l, "b", versionsOfNames("b@v0.1.0", "b@v0.2.0-rc.1")...)
	wantVersions(t, l, "c", versionsOfNames("c@v1.0.0")...)
	wantVersions(t, l, "a/v2", versionsOfNames("a/v2@v2.0.0")...)
	for _, path := range []string{"", "d", "aa", "a/v3", "a/", "A", "v2", "a@v1.0.0", "place"} {
		wantVersions(t, l, path)
	}
	slices.Reverse(l)
	wantVersions(t, l, "a", versionsOfNames("a@v1.1.0", "a@v1.0.0", "a@v1.2.0")...)
}

func TestLackingNeeds(t *testing.T) {
	l := plainEntries()
	wantLacking(t, l, needsOf("a@v1.0.0", "b@v0.1.0", "c@v1.0.0"))
	wantLacking(t, l, needsOf("c@v1.0.0"))
	wantLacking(t, l, needsOf("b@v0.2.0-rc.1"))
	wantLacking(t, l, needsOf("a@v1.0.0", "b@v1.0.0", "c@v1.0.0", "d@v0.0.0"), needsOf("b@v1.0.0", "d@v0.0.0")...)
	wantLacking(t, l, needsOf("a@v1.4.0", "b@v0.1.0", "c@v1.0.1"), needsOf("a@v1.4.0", "c@v1.0.1")...)
	wantLacking(t, l, needsOf("a@v0.9.0", "b@v0.0.1", "d@v1.0.0"), needsOf("a@v0.9.0", "b@v0.0.1", "d@v1.0.0")...)
	wantLacking(t, l, needsOf("b@v0.2.0"), needsOf("b@v0.2.0")...)
}

func TestNoEntriesAtAll(t *testing.T) {
	needs := needsOf("b@v1.0.0", "a@v1.0.0", "b@v1.0.0")
	for _, l := range [][]impl.Entry{nil, {}, make([]impl.Entry, 0, 5), plainEntries()[:0]} {
		for _, n := range append(namesIn(plainEntries()), impl.Need{}) {
			wantNotFound(t, l, n.Path, n.V)
			wantVersions(t, l, n.Path)
		}
		wantLacking(t, l, needs, needs...)
		wantLacking(t, l, nil)
		wantLacking(t, l, make([]impl.Need, 1), impl.Need{})
	}
}

func TestNoNeedsLackNothing(t *testing.T) {
	for _, l := range [][]impl.Entry{plainEntries(), twiceEntries(), make([]impl.Entry, 3), nil} {
		for _, needs := range [][]impl.Need{nil, {}, make([]impl.Need, 0, 5), needsOf("z@v1.0.0", "a@v1.0.0")[:0]} {
			wantLacking(t, l, needs)
		}
	}
}

// Of what is there twice the first one is found, with its own needs; of versions both are told.
func TestEntriesThatAreThereTwice(t *testing.T) {
	l := twiceEntries()
	wantFound(t, l, "b", parsedVersion(t, "v1.0.0"), l[0])
	wantFound(t, l, "a", parsedVersion(t, "v1.0.0"), l[1])
	wantFound(t, l, "a", parsedVersion(t, "v1.1.0"), l[2])
	wantVersions(t, l, "a", versionsOfNames("a@v1.0.0", "a@v1.1.0", "a@v1.0.0", "a@v1.1.0", "a@v1.0.0")...)
	wantVersions(t, l, "b", versionsOfNames("b@v1.0.0", "b@v1.0.0")...)
	wantLacking(t, l, needsOf("a@v1.0.0", "a@v1.1.0", "b@v1.0.0"))
	slices.Reverse(l)
	wantFound(t, l, "a", parsedVersion(t, "v1.0.0"), entryOf("a@v1.0.0", "z@v1.0.0"))
	wantFound(t, l, "a", parsedVersion(t, "v1.1.0"), entryOf("a@v1.1.0", "x@v1.2.0"))
	wantFound(t, l, "b", parsedVersion(t, "v1.0.0"), entryOf("b@v1.0.0"))
	same := []impl.Entry{entryOf("a@v1.0.0", "x@v1.0.0"), entryOf("a@v1.0.0", "x@v1.0.0")}
	wantFound(t, same, "a", same[0].V, same[0])
	wantVersions(t, same, "a", same[0].V, same[0].V)
}

func TestNeedsThatAreAskedForTwice(t *testing.T) {
	l := plainEntries()
	wantLacking(t, l, needsOf("d@v1.0.0", "d@v1.0.0"), needsOf("d@v1.0.0", "d@v1.0.0")...)
	wantLacking(t, l, needsOf("d@v1.0.0", "a@v1.0.0", "d@v1.0.0", "a@v1.0.0", "d@v1.0.0"), needsOf("d@v1.0.0", "d@v1.0.0", "d@v1.0.0")...)
	wantLacking(t, l, needsOf("a@v1.0.0", "a@v1.0.0"))
	wantLacking(t, l, needsOf("a@v1.0.1", "a@v1.0.0", "a@v1.0.1"), needsOf("a@v1.0.1", "a@v1.0.1")...)
}

func TestNeedsInAnyOrder(t *testing.T) {
	l := plainEntries()
	wantLacking(t, l, needsOf("z@v1.0.0", "c@v1.0.0", "y@v1.0.0", "a@v1.9.0", "a@v1.8.0"), needsOf("z@v1.0.0", "y@v1.0.0", "a@v1.9.0", "a@v1.8.0")...)
	wantLacking(t, l, needsOf("c@v1.0.0", "b@v0.1.0", "a@v1.2.0", "a@v1.1.0"))
	wantLacking(t, l, needsOf("d@v1.0.0", "c@v1.1.0", "d@v0.9.0", "b@v0.1.0", "c@v1.1.0"), needsOf("d@v1.0.0", "c@v1.1.0", "d@v0.9.0", "c@v1.1.0")...)
}

// Each field tells two names apart, on its own.
func TestNamesThatPartInOnePlace(t *testing.T) {
	base := impl.Need{Path: "a", V: impl.Version{Major: 1, Minor: 2, Patch: 3, Pre: "rc.1"}}
	others := []impl.Need{base, base, base, base, base, base}
	others[0].Path = "b"
	others[1].V.Major = 0
	others[2].V.Minor = 3
	others[3].V.Patch = 2
	others[4].V.Pre = "rc.2"
	others[5].V.Pre = ""
	for i, n := range others {
		e, alone := impl.Entry{Path: base.Path, V: base.V, Needs: needsOf("m@v1.0.0")}, entriesOf(others[i : i+1])[0]
		wantNotFound(t, []impl.Entry{alone}, base.Path, base.V)
		wantNotFound(t, []impl.Entry{e}, n.Path, n.V)
		wantFound(t, []impl.Entry{alone, e}, base.Path, base.V, e)
		wantFound(t, []impl.Entry{e, alone}, n.Path, n.V, alone)
		wantLacking(t, []impl.Entry{alone}, []impl.Need{base, n}, base)
		wantLacking(t, []impl.Entry{e}, []impl.Need{base, n}, n)
		if n.Path == base.Path {
			wantVersions(t, []impl.Entry{e, alone, e}, "a", base.V, n.V, base.V)
		} else {
			wantVersions(t, []impl.Entry{e, alone, e}, n.Path, n.V)
		}
	}
	all := entriesOf(append(others, base))
	wantFound(t, all, base.Path, base.V, all[len(others)])
	wantNotFound(t, all[:len(others)], base.Path, base.V)
}

// The chapter asks for nothing to be right: what no version or path is, is sought as any other.
func TestEntriesThatAreNotRight(t *testing.T) {
	names := strangeNames()
	l := entriesOf(names)
	for i, e := range l {
		wantFound(t, l, e.Path, e.V, e)
		wantNotFound(t, l[:i], e.Path, e.V)
		wantNotFound(t, l[i+1:], e.Path, e.V)
		wantVersions(t, l, e.Path, versionsByModel(l, e.Path)...)
		wantLacking(t, l[:i], names, names[i:]...)
	}
	wantLacking(t, l, names)
	wantLacking(t, nil, names, names...)
	back := slices.Clone(l)
	slices.Reverse(back)
	wantListLikeModel(t, append(back, l...), names)
}

func TestTheZeroEntryIsFound(t *testing.T) {
	zero := impl.Entry{}
	wantFound(t, []impl.Entry{zero}, "", impl.Version{}, zero)
	wantVersions(t, []impl.Entry{zero, {Path: "a"}, zero}, "", impl.Version{}, impl.Version{})
	wantLacking(t, []impl.Entry{zero}, []impl.Need{{}, {Path: "a"}, {}}, impl.Need{Path: "a"})
	wantLacking(t, []impl.Entry{{Path: "a"}}, []impl.Need{{}, {Path: "a"}, {}}, impl.Need{}, impl.Need{})
	with := impl.Entry{Needs: needsOf("a@v1.0.0")}
	wantFound(t, []impl.Entry{{Path: "a"}, with, zero}, "", impl.Version{}, with)
}

// An entry is found with the needs that it has, right or not.
func TestNeedsThatAreNotRight(t *testing.T) {
	for _, needs := range [][]impl.Need{
		needsOf("b@v1.0.0", "a@v1.0.0"),
		needsOf("b@v1.0.0", "b@v1.0.0"),
		needsOf("b@v1.0.0", "b@v1.1.0"),
		needsOf("m@v1.0.0"),
		needsOf("m@v1.1.0", "a@v1.0.0"),
		needsOfPaths(pathRow...),
		make([]impl.Need, 1),
		make([]impl.Need, 300),
		strangeNames(),
	} {
		e := impl.Entry{Path: "m", V: impl.Version{Major: 1}, Needs: needs}
		l := []impl.Entry{entryOf("m@v1.1.0", "a@v1.0.0"), e, entryOf("m@v1.0.0", "a@v1.0.0")}
		wantFound(t, l, "m", impl.Version{Major: 1}, e)
		wantVersions(t, l, "m", versionsOfNames("m@v1.1.0", "m@v1.0.0", "m@v1.0.0")...)
		wantLacking(t, l, needs, lackingByModel(l, needs)...)
	}
}

// No limit is named: neither for how many entries there are, nor for how many needs.
func TestManyEntriesAndNeeds(t *testing.T) {
	var names []impl.Need
	for i := range 1500 {
		names = append(names, impl.Need{Path: []string{"a", "b", "c"}[i%3], V: impl.Version{Major: 1, Minor: i / 2, Patch: i % 2}})
	}
	l := entriesOf(names)
	for _, i := range []int{0, 1, 59, 60, 61, 199, 200, 201, 749, 1498, 1499} {
		wantFound(t, l, names[i].Path, names[i].V, l[i])
		wantNotFound(t, l[:i], names[i].Path, names[i].V)
		wantLacking(t, l[:i], names, names[i:]...)
	}
	wantLacking(t, l, names)
	for i, path := range []string{"a", "b", "c"} {
		var versions []impl.Version
		for at := i; at < len(names); at += 3 {
			versions = append(versions, names[at].V)
		}
		wantVersions(t, l, path, versions...)
	}
	high := impl.Version{Major: math.MaxInt, Minor: math.MinInt, Patch: math.MaxInt}
	wantNotFound(t, l, "a", high)
	wantFound(t, append(l, impl.Entry{Path: "a", V: high}), "a", high, impl.Entry{Path: "a", V: high})
}

func TestAllSmallListsOfEntries(t *testing.T) {
	needs := needsOf("c@v1.0.0", "b@v1.1.0", "a@v1.0.0", "b@v1.0.0", "a@v1.0.0", "a@v1.1.0", "c@v1.0.0", "b@v1.0.0-0")
	for _, l := range smallEntryLists(5) {
		wantListLikeModel(t, l, needs)
	}
	for _, l := range [][]impl.Entry{plainEntries(), twiceEntries(), slices.Concat(plainEntries(), twiceEntries(), plainEntries())} {
		wantListLikeModel(t, l, append(namesIn(l), impl.Need{}))
	}
}

// Promise 15, in the program's own words: what is found stands in the list, and no other of its name ahead of it; its version is one of those of its path; it lacks nothing.
func TestAnEntryThatIsFoundIsThere(t *testing.T) {
	names := needsOf("a@v1.0.0", "a@v1.1.0", "b@v1.0.0", "b@v1.1.0", "c@v1.0.0")
	met := 0
	for _, l := range smallEntryLists(5) {
		for _, n := range names {
			e, ok := impl.FindEntry(l, n.Path, n.V)
			at := slices.IndexFunc(l, func(other impl.Entry) bool { return other.Path == n.Path && other.V == n.V })
			if ok != (at >= 0) || ok && !sameEntry(e, l[at]) {
				t.Errorf("FindEntry of %q in %v = %v, %v", nameOf(n), l, e, ok)
			}
			if slices.Contains(impl.VersionsOf(l, n.Path), n.V) != ok || (len(impl.Lacking(l, []impl.Need{n})) == 0) != ok {
				t.Errorf("whether %q is in %v is told in two ways", nameOf(n), l)
			}
			if ok {
				met++
				wantNotFound(t, l[:at], n.Path, n.V)
			}
		}
	}
	if met == 0 {
		t.Error("no entry was found")
	}
}

// sparedEntries gives l with spare room behind it, and behind the needs of each, in which all stands that is sought.
func sparedEntries(l []impl.Entry, sought ...impl.Need) []impl.Entry {
	all := slices.Clone(l)
	for i := range all {
		all[i].Needs = sparedNeeds(all[i].Needs, sought...)
	}
	all = append(all, entriesOf(sought)...)
	return all[:len(l):len(all)]
}

func sparedNeeds(l []impl.Need, more ...impl.Need) []impl.Need {
	all := slices.Concat(l, more)
	return all[:len(l):len(all)]
}

// wholeEntries copies all of l, and what stands behind it and behind its needs.
func wholeEntries(l []impl.Entry) []impl.Entry {
	all := slices.Clone(l[:cap(l)])
	for i, e := range all {
		all[i].Needs = slices.Clone(e.Needs[:cap(e.Needs)])
	}
	return all
}

// overwrittenNeeds writes over all of the list, and over the room behind it.
func overwrittenNeeds(l []impl.Need) {
	for i := range l[:cap(l)] {
		l[:cap(l)][i] = impl.Need{Path: "other", V: impl.Version{Major: 9, Pre: "other"}}
	}
}

func TestFindLeavesItsListsAlone(t *testing.T) {
	sought := needsOf("d@v1.0.0", "e@v1.0.0", "a@v1.7.0")
	for _, plain := range [][]impl.Entry{nil, plainEntries()[:1], plainEntries(), twiceEntries()} {
		l := sparedEntries(plain, sought...)
		needs := sparedNeeds(append(namesIn(plain), sought...), needsOf("spare@v1.0.0", "room@v1.0.0")...)
		kept, keptNeeds := wholeEntries(l), slices.Clone(needs[:cap(needs)])
		wantListLikeModel(t, l, needs)
		wantListLikeModel(t, l, needs[:0])
		for _, n := range sought {
			wantNotFound(t, l, n.Path, n.V) // what is behind the list is not read
		}
		wantLacking(t, l, sought, sought...)
		wantLacking(t, l, needs[:len(needs)-3], lackingByModel(plain, namesIn(plain))...)
		if !slices.EqualFunc(wholeEntries(l), kept, sameEntry) || !slices.Equal(needs[:cap(needs)], keptNeeds) {
			t.Errorf("%d entries, needs, or the room behind them, were written into", len(plain))
		}
	}
}

// What is answered may be written over: neither the list nor a later answer is another one for that.
func TestFoundEntriesShareNoList(t *testing.T) {
	l := sparedEntries(slices.Concat(plainEntries(), twiceEntries()), needsOf("d@v1.0.0")...)
	needs := sparedNeeds(needsOf("d@v1.0.0", "a@v1.0.0", "e@v1.0.0", "d@v1.0.0"), needsOf("spare@v1.0.0")...)
	kept, keptNeeds := wholeEntries(l), slices.Clone(needs[:cap(needs)])
	want := slices.Clone(l)
	for _, n := range namesIn(l) {
		first, _ := impl.FindEntry(l, n.Path, n.V)
		second, _ := impl.FindEntry(l, n.Path, n.V)
		overwrittenNeeds(first.Needs)
		if e, _ := findByModel(want, n.Path, n.V); !sameEntry(second, e) {
			t.Errorf("what is found of %q hangs on another answer: %v", nameOf(n), second)
		}
		versions := impl.VersionsOf(l, n.Path)
		for i := range versions[:cap(versions)] {
			versions[:cap(versions)][i] = impl.Version{Major: 9, Pre: "other"}
		}
		wantVersions(t, l, n.Path, versionsByModel(want, n.Path)...)
	}
	for _, some := range [][]impl.Need{needs, needs[:1], needs[2:], needs[:0]} {
		overwrittenNeeds(impl.Lacking(l, some))
		overwrittenNeeds(impl.Lacking(nil, some))
	}
	wantLacking(t, l, needs, needsOf("d@v1.0.0", "e@v1.0.0", "d@v1.0.0")...)
	if !slices.EqualFunc(wholeEntries(l), kept, sameEntry) || !slices.Equal(needs[:cap(needs)], keptNeeds) {
		t.Error("an answer shares memory with the entries, or with the needs")
	}
}

// An answer stays as it was when the list that it came of is written over.
func TestFoundEntriesOutliveTheirList(t *testing.T) {
	l := plainEntries()
	needs := needsOf("d@v1.0.0", "a@v1.0.0", "e@v1.0.0-rc.1")
	e, _ := impl.FindEntry(l, "c", l[0].V)
	versions, lacking := impl.VersionsOf(l, "a"), impl.Lacking(l, needs)
	for i := range l {
		overwrittenNeeds(l[i].Needs)
		l[i] = impl.Entry{Path: "other"}
	}
	overwrittenNeeds(needs)
	if !sameEntry(e, plainEntries()[0]) {
		t.Errorf("what was found is now %v", e)
	}
	if !slices.Equal(versions, versionsOfNames("a@v1.2.0", "a@v1.0.0", "a@v1.1.0")) {
		t.Errorf("the versions are now %v", versions)
	}
	if !slices.Equal(lacking, needsOf("d@v1.0.0", "e@v1.0.0-rc.1")) {
		t.Errorf("what is lacking is now %v", lacking)
	}
}

func TestFoundEntriesShareNoText(t *testing.T) {
	text := func(s string) string { return strings.Repeat(s, 8) }
	v := impl.Version{Major: 1, Pre: text("p")}
	path, need := text("a"), impl.Need{Path: text("n"), V: impl.Version{Minor: 1, Pre: text("q")}}
	l := []impl.Entry{{Path: path, V: v, Needs: []impl.Need{need}}}
	e, _ := impl.FindEntry(l, path, v)
	pieces := []string{e.Path, e.V.Pre, e.Needs[0].Path, e.Needs[0].V.Pre}
	pieces = append(pieces, impl.VersionsOf(l, path)[0].Pre)
	lacking := impl.Lacking(l, []impl.Need{need})[0]
	pieces = append(pieces, lacking.Path, lacking.V.Pre)
	for _, piece := range pieces {
		for _, whole := range []string{path, v.Pre, need.Path, need.V.Pre} {
			if within(piece, whole) {
				t.Errorf("%q, which is answered, is a piece of an argument", piece)
			}
		}
	}
}
