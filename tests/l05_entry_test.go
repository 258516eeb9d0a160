package tests

import (
	"fmt"
	"regexp"
	"slices"
	"strconv"
	"strings"
	"testing"
	"unsafe"

	"loop.example/g00233/impl"
)

const (
	longPath        = part20 + "/" + part20 + "/" + part18
	longVersionText = "v1.1000000.1000000-12345678.abcdefgh.ABCDEFGH.--------"
)

// entryForms: right entries, with the texts that the document asks for.
var entryForms = []struct {
	e    impl.Entry
	text string
}{
	{impl.Entry{Path: "a"}, "\x08a@v0.0.0\x00"},
	{impl.Entry{Path: "a", V: impl.Version{Major: 1, Minor: 2, Patch: 3}}, "\x08a@v1.2.3\x00"},
	{impl.Entry{Path: "a", V: impl.Version{Pre: "0"}}, "\x0aa@v0.0.0-0\x00"},
	{impl.Entry{Path: "v2", V: impl.Version{Major: 1}}, "\x09v2@v1.0.0\x00"},
	{impl.Entry{Path: "a/v1", V: impl.Version{Major: 1}}, "\x0ba/v1@v1.0.0\x00"},
	{impl.Entry{Path: "a/v2", V: impl.Version{Major: 2, Pre: "rc.1"}}, "\x10a/v2@v2.0.0-rc.1\x00"},
	{impl.Entry{Path: "a/v1000", V: impl.Version{Major: 1000, Minor: 1000000}}, "\x17a/v1000@v1000.1000000.0\x00"},
	{impl.Entry{Path: "b", V: impl.Version{Major: 1}, Needs: needsOf("a@v0.3.0")}, "\x08b@v1.0.0\x01\x08a@v0.3.0"},
	{
		impl.Entry{Path: "b", V: impl.Version{Major: 1}, Needs: needsOf("a@v0.3.0", "c/v2@v2.0.0")},
		"\x08b@v1.0.0\x02\x08a@v0.3.0\x0bc/v2@v2.0.0",
	},
	{impl.Entry{Path: "a", V: impl.Version{Minor: 1}, Needs: needsOf("a/v2@v2.0.0")}, "\x08a@v0.1.0\x01\x0ba/v2@v2.0.0"},
	{
		impl.Entry{Path: "a/v2", V: impl.Version{Major: 2}, Needs: needsOf("a@v1.0.0-a-b", "a/v3@v3.0.0", "a/v3/v2@v2.7.1")},
		"\x0ba/v2@v2.0.0\x03\x0ca@v1.0.0-a-b\x0ba/v3@v3.0.0\x0ea/v3/v2@v2.7.1",
	},
	{
		impl.Entry{Path: "m", Needs: needsOf("0@v0.0.0", "a-b@v0.0.0", "a.b@v0.0.0", "a/b@v0.0.0", "a0@v0.0.0", "a_b@v0.0.0", "ab@v0.0.0", "z@v0.0.0")},
		"\x08m@v0.0.0\x08\x080@v0.0.0\x0aa-b@v0.0.0\x0aa.b@v0.0.0\x0aa/b@v0.0.0\x09a0@v0.0.0\x0aa_b@v0.0.0\x09ab@v0.0.0\x08z@v0.0.0",
	},
	{
		impl.Entry{Path: "a", Needs: needsOf(longPath + "@" + longVersionText)},
		"\x08a@v0.0.0\x01\x73" + longPath + "@" + longVersionText,
	},
	{
		impl.Entry{Path: longPath, V: needsOf(longPath + "@" + longVersionText)[0].V, Needs: needsOf("a@v0.0.0")},
		"\x73" + longPath + "@" + longVersionText + "\x01\x08a@v0.0.0",
	},
}

// pathRow: right paths of the Major 1, and of others, in the order of their bytes; some are beginnings of others.
var pathRow = []string{
	"0", "00", "1", "10", "2", "a", "a-", "a--", "a-b", "a.", "a.b", "a/0", "a/b", "a/b-c", "a/b/c", "a/bc", "a/v10", "a/v2", "a/v2-", "a/v2/v2", "a/v2/v3", "a/v20", "a/v3", "a0", "a_", "a_b", "aa", "ab", "b", "v2", "v2/v2", "z",
}

// wrongNames: texts that no path and version have as their name; those of wrongPaths and wrongVersionTexts come beside them.
var wrongNames = []string{
	"", "@", "@@", "a", "a@", "@v1.0.0", "v1.0.0", "av1.0.0", "a v1.0.0", "a/v1.0.0", "a@@v1.0.0", "@a@v1.0.0", "a@v1.0.0@", "a@v1.0.0@v1.0.0", "a@b@v1.0.0", "a@v1.0.0-@", "a@v1.0.0-a@b", "a@v1@.0.0",
	" a@v1.0.0", "a @v1.0.0", "a@ v1.0.0", "a@v1.0.0 ", "a@v1.0.0\n", "\na@v1.0.0", "a@v1.0.0\x00", "a\x00@v1.0.0", "v1.0.0@a", "a#v1.0.0", "a\uff20v1.0.0", "a\xc0v1.0.0", "a\x40", "a\xe2\x80\x8b@v1.0.0",
	"a@v2.0.0", "a@v3.0.0", "a@v1000000.0.0", "v2@v2.0.0", "a/v1@v2.0.0", "a/v2@v0.0.0", "a/v2@v1.0.0", "a/v2@v3.0.0", "a/v2@v20.0.0", "a/v02@v2.0.0", "a/v2/b@v2.0.0", "a/v2/v3@v2.0.0", "a/v1001@v1001.0.0",
	"a@1.0.0", "a@V1.0.0", "A@v1.0.0", "a@v01.0.0", "a@v1.00.0", "a@v1.0.00", "a/v2@v02.0.0", "a@v1.0.0-01", "a@v1.0.0-", "a@v1.0", "a@v1.0.0.0", "a@v1.1000001.0", "a@v1.0.0-abcdefghi", "a@v1.0.0-a.b.c.d.e", "a@v1.0.0+b", "a@v1.0.0-a_b",
	"\x80@v1.0.0", "a\x80@v1.0.0", "a@\x80v1.0.0", "a@v1.0.0\x80", "a\xff@v1.0.0", "a@v1.0.0-\xff", "\xe1@v1.0.0", "a@v\xb1.0.0", "é@v1.0.0", "a@v1.0.0-é", "a@v１.0.0",
}

var (
	modelNumber = `(0|[1-9][0-9]{0,5}|1000000)`
	modelName   = regexp.MustCompile(`^([^@]+)@v` + modelNumber + `\.` + modelNumber + `\.` + modelNumber + `(-[A-Za-z0-9.-]+)?$`)
	modelPre    = regexp.MustCompile(`^(0|[1-9][0-9]{0,7}|[A-Za-z0-9-]{0,7}[A-Za-z-][A-Za-z0-9-]{0,7})$`)
)

// needByModel says by patterns what a name is one of.
func needByModel(s string) (impl.Need, bool) {
	m := modelName.FindStringSubmatch(s)
	if m == nil || len(m[1]) > 60 || !modelPath.MatchString(m[1]) {
		return impl.Need{}, false
	}
	var nums [3]int
	for i := range nums {
		nums[i], _ = strconv.Atoi(m[i+2])
	}
	pre := strings.TrimPrefix(m[5], "-")
	parts := strings.Split(pre, ".")
	for _, part := range parts {
		if pre != "" && (len(part) > 8 || !modelPre.MatchString(part)) {
			return impl.Need{}, false
		}
	}
	major := "1"
	if p := modelMajor.FindStringSubmatch(m[1]); p != nil {
		major = p[2]
	}
	if len(parts) > 4 || m[2] != major && (major != "1" || m[2] != "0") {
		return impl.Need{}, false
	}
	return impl.Need{Path: m[1], V: impl.Version{Major: nums[0], Minor: nums[1], Patch: nums[2], Pre: pre}}, true
}

// cutByModel takes a text off s; a right name has fewer than 128 bytes, so that one byte tells how many.
func cutByModel(s string) (string, string, bool) {
	if s == "" || s[0] > 127 || int(s[0]) >= len(s) {
		return "", "", false
	}
	return s[1 : 1+s[0]], s[1+s[0]:], true
}

// entryByModel says of any text which entry has it.
func entryByModel(s string) (impl.Entry, bool) {
	name, rest, whole := cutByModel(s)
	key, ok := needByModel(name)
	if !whole || !ok || rest == "" || rest[0] > 8 {
		return impl.Entry{}, false
	}
	e := impl.Entry{Path: key.Path, V: key.V}
	left, rest := int(rest[0]), rest[1:]
	for ahead := ""; left > 0; left-- {
		name, rest, whole = cutByModel(rest)
		n, ok := needByModel(name)
		if !whole || !ok || n.Path == e.Path || n.Path <= ahead {
			return impl.Entry{}, false
		}
		ahead = n.Path
		e.Needs = append(e.Needs, n)
	}
	if rest != "" {
		return impl.Entry{}, false
	}
	return e, true
}

// needsOf gives the needs of these names by the model, so that no table here hangs on the program.
func needsOf(names ...string) []impl.Need {
	l := []impl.Need{}
	for _, name := range names {
		n, ok := needByModel(name)
		if !ok {
			panic("no name: " + name)
		}
		l = append(l, n)
	}
	return l
}

// needsOfPaths gives a need of each path, of its least Major above 0.
func needsOfPaths(paths ...string) []impl.Need {
	l := []impl.Need{}
	for i, path := range paths {
		l = append(l, impl.Need{Path: path, V: impl.Version{Major: impl.MajorOf(path), Minor: i}})
	}
	return l
}

// textOf puts names without asking whether they are right.
func textOf(name string, needs ...string) string {
	return string(impl.PutTexts(impl.PutText(nil, name), needs))
}

func nameOf(n impl.Need) string {
	text := fmt.Sprintf("%s@v%d.%d.%d", n.Path, n.V.Major, n.V.Minor, n.V.Patch)
	if n.V.Pre != "" {
		text += "-" + n.V.Pre
	}
	return text
}

// formOf puts an entry that may be wrong as a right one would be put.
func formOf(e impl.Entry) string {
	names := []string{}
	for _, n := range e.Needs {
		names = append(names, nameOf(n))
	}
	return textOf(nameOf(impl.Need{Path: e.Path, V: e.V}), names...)
}

func sameEntry(a, b impl.Entry) bool {
	return a.Path == b.Path && a.V == b.V && slices.Equal(a.Needs, b.Needs)
}

func wantEntry(t *testing.T, e impl.Entry, text string) {
	t.Helper()
	if !impl.EntryOk(e) {
		t.Errorf("EntryOk(%+v) is false", e)
	}
	if got := impl.PutEntry(e); got != text {
		t.Errorf("PutEntry(%+v) = %q; want %q", e, got, text)
	}
	if got, ok := impl.GetEntry(text); !ok || !sameEntry(got, e) {
		t.Errorf("GetEntry(%q) = %+v, %v; want %+v, true", text, got, ok, e)
	}
}

// wantNoEntry asks of the entry, and of the text that it would have, were it right.
func wantNoEntry(t *testing.T, e impl.Entry) {
	t.Helper()
	if impl.EntryOk(e) {
		t.Errorf("EntryOk(%.300q) is true", fmt.Sprint(e))
	}
	if got := impl.PutEntry(e); got != "" {
		t.Errorf("PutEntry(%.300q) = %q; want nothing", fmt.Sprint(e), got)
	}
	wantNoEntryText(t, formOf(e))
}

func wantNoEntryText(t *testing.T, s string) {
	t.Helper()
	if e, ok := impl.GetEntry(s); ok || !sameEntry(e, impl.Entry{}) {
		t.Errorf("GetEntry(%.300q) = %+v, %v; want the zero one, false", s, e, ok)
	}
}

func wantEntryLikeModel(t *testing.T, s string) {
	t.Helper()
	e, ok := entryByModel(s)
	if !ok {
		wantNoEntryText(t, s)
		return
	}
	wantEntry(t, e, s)
}

func wantName(t *testing.T, n impl.Need, name string) {
	t.Helper()
	if !impl.NeedOk(n) || !impl.NeedsOk([]impl.Need{n}) {
		t.Errorf("%+v is no need", n)
	}
	if got := impl.EntryName(n.Path, n.V); got != name {
		t.Errorf("EntryName of %+v = %q; want %q", n, got, name)
	}
	if got, ok := impl.ParseName(name); !ok || got != n {
		t.Errorf("ParseName(%q) = %+v, %v; want %+v, true", name, got, ok, n)
	}
}

func wantNoName(t *testing.T, s string) {
	t.Helper()
	if n, ok := impl.ParseName(s); ok || n != (impl.Need{}) {
		t.Errorf("ParseName(%.300q) = %+v, %v; want the zero one, false", s, n, ok)
	}
}

// wantNoNeed asks of a need alone, and of entries: as what is needed, and as what an entry is of.
func wantNoNeed(t *testing.T, n impl.Need) {
	t.Helper()
	if impl.NeedOk(n) || impl.NeedsOk([]impl.Need{n}) {
		t.Errorf("%.300q is a need", fmt.Sprint(n))
	}
	if got := impl.EntryName(n.Path, n.V); got != "" {
		t.Errorf("EntryName of %.300q = %q; want nothing", fmt.Sprint(n), got)
	}
	wantNoName(t, nameOf(n))
	wantNoEntry(t, impl.Entry{Path: n.Path, V: n.V})
	wantNoEntry(t, impl.Entry{Path: "m", Needs: []impl.Need{n}})
	wantNoEntry(t, impl.Entry{Path: n.Path, V: n.V, Needs: needsOf("m@v1.0.0")})
}

func wantNameLikeModel(t *testing.T, s string) {
	t.Helper()
	n, ok := needByModel(s)
	if !ok {
		wantNoName(t, s)
		return
	}
	wantName(t, n, s)
}

func wantNeeds(t *testing.T, l []impl.Need, want bool) {
	t.Helper()
	if got := impl.NeedsOk(l); got != want {
		t.Errorf("NeedsOk(%.300q) = %v", fmt.Sprint(l), got)
	}
}

// Promise 5: entries come back of their texts.
func TestEntriesComeBack(t *testing.T) {
	for _, c := range entryForms {
		wantEntry(t, c.e, c.text)
		wantEntryLikeModel(t, c.text)
		wantNeeds(t, c.e.Needs, true)
	}
}

func TestManyEntriesComeBack(t *testing.T) {
	state := uint32(5)
	below := func(n int) int {
		state = state*1664525 + 1013904223
		return int(state>>8) % n
	}
	for range 3000 {
		at := below(len(pathRow))
		e := impl.Entry{Path: pathRow[at], V: impl.Version{Major: impl.MajorOf(pathRow[at]), Minor: below(1000001), Patch: below(3), Pre: []string{"", "rc.1", "0"}[below(3)]}}
		for i := range pathRow {
			if i != at && len(e.Needs) < 8 && below(4) == 0 {
				e.Needs = append(e.Needs, impl.Need{Path: pathRow[i], V: impl.Version{Major: impl.MajorOf(pathRow[i]), Patch: below(200), Pre: []string{"", "a-b.0"}[below(2)]}})
			}
		}
		wantEntry(t, e, formOf(e))
		wantEntryLikeModel(t, formOf(e))
	}
}

func TestNamesComeBack(t *testing.T) {
	wantName(t, impl.Need{Path: "a"}, "a@v0.0.0")
	wantName(t, impl.Need{Path: "c/v2", V: impl.Version{Major: 2, Minor: 1}}, "c/v2@v2.1.0")
	wantName(t, needsOf(longPath + "@" + longVersionText)[0], longPath+"@"+longVersionText)
	for _, p := range rightPaths {
		for _, c := range versionTexts {
			name := p.path + "@" + c.text
			if fitsMajor(p.major, c.v.Major) {
				wantName(t, impl.Need{Path: p.path, V: c.v}, name)
			} else {
				wantNoNeed(t, impl.Need{Path: p.path, V: c.v})
			}
			wantNameLikeModel(t, name)
		}
	}
}

func TestWrongNames(t *testing.T) {
	for _, s := range wrongNames {
		wantNoName(t, s)
		wantNameLikeModel(t, s)
		wantNoEntryText(t, textOf(s))
		wantNoEntryText(t, textOf("m@v1.0.0", s))
		wantNoEntryText(t, textOf("zz@v1.0.0", "0@v1.0.0", s))
	}
	for _, path := range wrongPaths {
		wantNoName(t, path+"@v1.0.0")
		wantNoName(t, path+"@v0.0.0")
	}
	for _, text := range wrongVersionTexts {
		wantNoName(t, "a@"+text)
		wantNoName(t, "a/v2@"+text)
	}
}

func TestNamesOneByteOff(t *testing.T) {
	for _, name := range []string{"a@v0.0.0", "a/v2@v2.0.1", "a.b/c@v1.10.0-rc.1", "a/v10@v10.0.0-0"} {
		for i := range len(name) + 1 {
			wantNameLikeModel(t, name[:i])
			wantNameLikeModel(t, name[i:])
			for c := range 256 {
				sign := string([]byte{byte(c)})
				wantNameLikeModel(t, name[:i]+sign+name[i:])
				if i < len(name) {
					wantNameLikeModel(t, name[:i]+sign+name[i+1:])
				}
			}
			if i < len(name) {
				wantNameLikeModel(t, name[:i]+name[i+1:])
			}
		}
	}
}

func TestWrongPathsHaveNoEntry(t *testing.T) {
	for _, path := range wrongPaths {
		for major := range 3 {
			wantNoNeed(t, impl.Need{Path: path, V: impl.Version{Major: major}})
		}
	}
}

func TestWrongVersionsHaveNoEntry(t *testing.T) {
	for _, n := range wrongNumbers {
		for path, major := range map[string]int{"a": 1, "a/v2": 2} {
			wantNoNeed(t, impl.Need{Path: path, V: impl.Version{Major: n}})
			wantNoNeed(t, impl.Need{Path: path, V: impl.Version{Major: major, Minor: n}})
			wantNoNeed(t, impl.Need{Path: path, V: impl.Version{Major: major, Patch: n}})
		}
	}
	for _, pre := range wrongPres {
		wantNoNeed(t, impl.Need{Path: "a", V: impl.Version{Major: 1, Pre: pre}})
		wantNoNeed(t, impl.Need{Path: "a/v2", V: impl.Version{Major: 2, Pre: pre}})
	}
}

func TestVersionsThatDoNotFit(t *testing.T) {
	for _, s := range []string{"a@v2.0.0", "a/v2@v1.0.0", "a/v2@v0.0.0", "a/v2@v3.0.0", "v2@v2.0.0", "a/v1001@v1001.0.0"} {
		path, text, _ := strings.Cut(s, "@")
		wantNoNeed(t, impl.Need{Path: path, V: parsedVersion(t, text)})
	}
}

// One wrong need is enough, wherever it stands.
func TestOneWrongNeed(t *testing.T) {
	wrong := []impl.Version{{Major: 2}, {Major: 1, Minor: -1}, {Major: 1, Pre: "."}, {Minor: 1000001}}
	for i := range 8 {
		needs := needsOfPaths("a", "b", "c", "d", "e", "f", "g", "h")
		wantNeeds(t, needs, true)
		wantEntry(t, impl.Entry{Path: "m", Needs: needs}, formOf(impl.Entry{Path: "m", Needs: needs}))
		for _, v := range wrong {
			needs[i].V = v
			wantNeeds(t, needs, false)
			wantNoEntry(t, impl.Entry{Path: "m", Needs: needs})
		}
		needs[i] = impl.Need{Path: needs[i].Path + "/", V: impl.Version{Major: 1}}
		wantNeeds(t, needs, false)
		wantNoEntry(t, impl.Entry{Path: "m", Needs: needs})
		needs[i] = impl.Need{}
		wantNeeds(t, needs, false)
		wantNoEntry(t, impl.Entry{Path: "m", Needs: needs})
	}
}

func TestHowManyNeeds(t *testing.T) {
	wantNeeds(t, nil, true)
	wantNeeds(t, []impl.Need{}, true)
	for n := range len(pathRow) + 1 {
		needs := needsOfPaths(pathRow[:n]...)
		wantNeeds(t, needs, n <= 20)
		e := impl.Entry{Path: "zz", V: impl.Version{Major: 1}, Needs: needs}
		if n <= 8 {
			wantEntry(t, e, formOf(e))
		} else {
			wantNoEntry(t, e)
		}
	}
}

func TestVeryManyNeeds(t *testing.T) {
	for _, n := range []int{127, 128, 199, 200, 201, 256, 264, 1000} {
		var needs []impl.Need
		for i := range n {
			needs = append(needs, impl.Need{Path: fmt.Sprintf("p%05d", i)})
		}
		wantNeeds(t, needs, false)
		wantNoEntry(t, impl.Entry{Path: "m", Needs: needs})
		wantNeeds(t, make([]impl.Need, n), false)
		wantNoEntry(t, impl.Entry{Path: "m", Needs: make([]impl.Need, n)})
	}
}

func TestNeedsAscend(t *testing.T) {
	for i, a := range pathRow {
		for j, b := range pathRow {
			needs := needsOfPaths(a, b)
			wantNeeds(t, needs, i < j)
			e := impl.Entry{Path: "zz", V: impl.Version{Minor: 1}, Needs: needs}
			if i < j {
				wantEntry(t, e, formOf(e))
			} else {
				wantNoEntry(t, e)
			}
			needs[0].V.Patch, needs[1].V.Minor = 5, 0
			wantNeeds(t, needs, i < j)
		}
	}
	wantNeeds(t, needsOfPaths("a", "b", "b", "c"), false)
	wantNeeds(t, needsOfPaths("a", "c", "b", "d"), false)
	wantNeeds(t, needsOfPaths("a", "b", "c", "a"), false)
	wantNeeds(t, needsOf("a@v1.0.0", "a@v1.0.0"), false)
	wantNeeds(t, needsOf("a@v1.0.0", "a@v1.0.1"), false)
	wantNeeds(t, needsOf("a@v1.9.0", "b@v1.0.0"), true)
	wantNeeds(t, needsOf("b@v1.0.0", "a@v1.9.0"), false)
}

// What needs itself is wrong at any version; NeedsOk knows of no entry, so it takes such needs.
func TestNoEntryNeedsItself(t *testing.T) {
	for i, path := range pathRow {
		for _, v := range []impl.Version{{}, {Minor: 1}, {Patch: 7}, {Minor: 1000000, Patch: 1000000}, {Pre: "0"}, {Minor: 3, Pre: "rc.1"}} {
			v.Major = impl.MajorOf(path)
			e := impl.Entry{Path: path, V: impl.Version{Major: v.Major, Minor: 3}, Needs: []impl.Need{{Path: path, V: v}}}
			wantNeeds(t, e.Needs, true)
			wantNoEntry(t, e)
		}
		for from := max(0, i-7); from <= i && from+8 <= len(pathRow); from++ {
			e := impl.Entry{Path: path, V: impl.Version{Major: impl.MajorOf(path)}, Needs: needsOfPaths(pathRow[from : from+8]...)}
			wantNeeds(t, e.Needs, true)
			wantNoEntry(t, e)
		}
	}
	wantNoEntry(t, impl.Entry{Path: "a", V: impl.Version{Major: 1}, Needs: needsOf("a@v0.0.0")})
	wantNoEntry(t, impl.Entry{Path: "a", Needs: needsOf("a@v1.0.0")})
}

func TestEntriesNeedTheirLikes(t *testing.T) {
	for _, a := range pathRow {
		for _, b := range pathRow {
			e := impl.Entry{Path: a, V: impl.Version{Major: impl.MajorOf(a)}, Needs: needsOfPaths(b)}
			if a == b {
				wantNoEntry(t, e)
			} else {
				wantEntry(t, e, formOf(e))
			}
		}
	}
	for _, text := range []string{textOf("a@v1.0.0", "a/v2@v2.0.0"), textOf("a/v2@v2.0.0", "a@v1.0.0"), textOf("a/v2@v2.0.0", "a/v3@v3.0.0"), textOf("a/v2@v2.0.0", "a/v2/v2@v2.0.0"), textOf("a/v2@v2.0.0", "a/v1@v1.0.0")} {
		e, ok := entryByModel(text)
		if !ok {
			t.Fatalf("%q", text)
		}
		wantEntry(t, e, text)
	}
}

// Each text a byte off a right one is asked: it is another entry's, or none.
func TestEntryTextsOneByteOff(t *testing.T) {
	for _, c := range entryForms {
		for i := range len(c.text) + 1 {
			if i < len(c.text) {
				wantNoEntryText(t, c.text[:i])
			}
			if i > 0 {
				wantNoEntryText(t, c.text[i:])
			}
			for _, sign := range []string{"\x00", "\x01", "\x08", "\x09", "\x7f", "\x80", "\x81", "\xff", "@", "/", "a", "v", "0", "1", "2", "-", ".", "A"} {
				wantEntryLikeModel(t, c.text[:i]+sign+c.text[i:])
				if i < len(c.text) {
					wantEntryLikeModel(t, c.text[:i]+sign+c.text[i+1:])
				}
			}
			if i < len(c.text) {
				wantEntryLikeModel(t, c.text[:i]+c.text[i+1:])
			}
		}
		for b := range 256 {
			wantNoEntryText(t, c.text+string([]byte{byte(b)}))
		}
		wantNoEntryText(t, c.text+c.text)
		wantNoEntryText(t, "\x00"+c.text)
	}
}

// A right entry has one text alone: numbers in longer forms, or forms that are cut, are none of it.
func TestEntryTextsInOtherForms(t *testing.T) {
	wantEntryLikeModel(t, "\x08b@v1.0.0\x02\x08a@v0.3.0\x08c@v0.3.0")
	for _, s := range []string{
		"", "\x00", "\x00\x00", "\x01@\x00", "\x01a\x00", "\x08b@v1.0.0", "b@v1.0.0", "b@v1.0.0\x00",
		"\x88\x00b@v1.0.0\x00", "\x88\x80\x00b@v1.0.0\x00", "\x08b@v1.0.0\x80\x00", "\x08b@v1.0.0\x80", "\x08b@v1.0.0\x80\x80", "\x08b@v1.0.0\x81\x00\x08a@v0.3.0", "\x08b@v1.0.0\x01\x88\x00a@v0.3.0", "\x08b@v1.0.0\x01\x88\x80\x00a@v0.3.0",
		"\x08b@v1.0.0\x01", "\x08b@v1.0.0\x02\x08a@v0.3.0", "\x08b@v1.0.0\x01\x08a@v0.3.", "\x08b@v1.0.0\x01\x07a@v0.3.0", "\x08b@v1.0.0\x01\x09a@v0.3.0", "\x08b@v1.0.0\x01\x08a@v0.3.0\x00", "\x08b@v1.0.0\x00\x08a@v0.3.0", "\x08b@v1.0.0\x01\x00", "\x08b@v1.0.0\x08", "\x08b@v1.0.0\x09", "\x08b@v1.0.0\xc8\x01", "\x08b@v1.0.0\xc9\x01", "\x08b@v1.0.0\x80\x94\xeb\xdc\x03", "\x08b@v1.0.0\x81\x94\xeb\xdc\x03", "\x08b@v1.0.0\xff\xff\xff\xff\x0f",
		"\x09b@v01.0.0\x00", "\x09b@v1.00.0\x00", "\x09b@v1.0.00\x00", "\x0ba/v2@v1.0.0\x00", "\x0ca/v02@v2.0.0\x00", "\x0ca/v2@v02.0.0\x00", "\x09b@v1.0.0-\x00", "\x0bb@v1.0.0-00\x00", "\x08b@v1.0.0\x01\x09a@v00.3.0", "\x08b@v1.0.0\x01\x09a@v0.03.0", "\x08b@v1.0.0\x01\x0ba@v0.3.0-01",
		"\x08b@v1.0.0 \x00", "\x09b@v1.0.0 \x00", "\x09b@v1.0.0\n\x00", "\x08\xe1@v1.0.0\x00", "\x09\xc3\xa9@v1.0.0\x00", "\x08b@v1.0.0\x01\x08\x80@v0.3.0", "\x08b@v1.0.0\x01\x09\xc3\xa9@v0.3.0",
		"\x08b@v1.0.0\x02\x08c@v0.3.0\x08a@v0.3.0", "\x08b@v1.0.0\x02\x08a@v0.3.0\x08a@v0.3.0", "\x08b@v1.0.0\x02\x08a@v0.3.0\x08a@v0.4.0", "\x08b@v1.0.0\x01\x08b@v1.0.0", "\x08b@v1.0.0\x01\x08b@v0.9.0", "\x08b@v1.0.0\x03\x08a@v0.3.0\x08b@v0.9.0\x08c@v0.3.0",
		strings.Repeat("\x80", 1000), strings.Repeat("\xff", 1000), strings.Repeat("\x00", 1000), strings.Repeat("@", 1000), "\x08b@v1.0.0\x08" + strings.Repeat("\x08a@v0.3.0", 8), "\x08b@v1.0.0" + strings.Repeat("\x08", 100000),
	} {
		wantNoEntryText(t, s)
		wantEntryLikeModel(t, s)
	}
	for _, s := range wrongNums {
		wantNoEntryText(t, s)
		wantNoEntryText(t, s+"b@v1.0.0\x00")
		wantNoEntryText(t, "\x08b@v1.0.0"+s)
		wantNoEntryText(t, "\x08b@v1.0.0\x01"+s)
		wantNoEntryText(t, "\x08b@v1.0.0\x01"+s+"a@v0.3.0")
	}
}

func TestTheZeroEntryIsNone(t *testing.T) {
	wantNoEntry(t, impl.Entry{})
	wantNoNeed(t, impl.Need{})
	wantNeeds(t, make([]impl.Need, 1), false)
	wantNoEntry(t, impl.Entry{Needs: needsOf("a@v1.0.0")})
}

func TestEntriesLeaveTheirNeedsAlone(t *testing.T) {
	all := needsOfPaths(pathRow...)
	kept := slices.Clone(all)
	for n := range all {
		e := impl.Entry{Path: "zz", V: impl.Version{Major: 1}, Needs: all[:n]}
		first := impl.PutEntry(e)
		impl.EntryOk(e)
		impl.NeedsOk(all[:n])
		for i := range e.Needs {
			impl.NeedOk(e.Needs[i])
		}
		if !slices.Equal(all, kept) {
			t.Fatalf("%d needs, or the room behind them, were written into", n)
		}
		if n > 8 {
			continue
		}
		all[0].V.Minor, all[len(all)-1].V.Minor = 77, 77
		if first != formOf(impl.Entry{Path: "zz", V: impl.Version{Major: 1}, Needs: kept[:n]}) {
			t.Errorf("the text of %d needs is another one: %q", n, first)
		}
		copy(all, kept)
	}
	wrong := needsOf("b@v1.0.0", "a@v1.0.0", "spare@v1.0.0")
	keptWrong := slices.Clone(wrong)
	impl.NeedsOk(wrong[:2])
	impl.EntryOk(impl.Entry{Path: "m", Needs: wrong[:2]})
	impl.PutEntry(impl.Entry{Path: "m", Needs: wrong[:2]})
	if !slices.Equal(wrong, keptWrong) {
		t.Errorf("needs the wrong way round are now %v", wrong)
	}
}

func TestEntriesShareNoNeeds(t *testing.T) {
	for _, c := range entryForms {
		first, _ := impl.GetEntry(c.text)
		second, _ := impl.GetEntry(c.text)
		for i := range first.Needs[:cap(first.Needs)] {
			first.Needs[:cap(first.Needs)][i] = impl.Need{Path: "other"}
		}
		if !sameEntry(second, c.e) {
			t.Errorf("an entry hangs on another one of the same text: %+v", second)
		}
	}
}

// within: whether part lies in the memory of whole.
func within(part, whole string) bool {
	from := uintptr(unsafe.Pointer(unsafe.StringData(whole)))
	at := uintptr(unsafe.Pointer(unsafe.StringData(part)))
	return part != "" && at >= from && at < from+uintptr(len(whole))
}

func TestEntriesShareNoText(t *testing.T) {
	for _, c := range entryForms {
		text := strings.Clone(c.text)
		e, _ := impl.GetEntry(text)
		for _, n := range append([]impl.Need{{Path: e.Path, V: e.V}}, e.Needs...) {
			if within(n.Path, text) || within(n.V.Pre, text) {
				t.Errorf("%+v is a piece of its text", n)
			}
			name := strings.Clone(nameOf(n))
			back, ok := impl.ParseName(name)
			if !ok || within(back.Path, name) || within(back.V.Pre, name) {
				t.Errorf("%+v is a piece of its name", back)
			}
			if again := impl.EntryName(n.Path, n.V); within(again, n.Path) || within(n.Path, again) || again != name {
				t.Errorf("%q shares memory with its path", again)
			}
		}
		if text != c.text {
			t.Errorf("%q was written into: %q", c.text, text)
		}
	}
}
