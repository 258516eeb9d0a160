package tests

import (
	"math"
	"slices"
	"strings"
	"testing"

	"loop.example/g00233/impl"
)

// versionTexts: right versions, with the texts that the document asks for.
var versionTexts = []struct {
	v    impl.Version
	text string
}{
	{impl.Version{}, "v0.0.0"},
	{impl.Version{Major: 1, Minor: 2, Patch: 3}, "v1.2.3"},
	{impl.Version{Minor: 1}, "v0.1.0"},
	{impl.Version{Patch: 1}, "v0.0.1"},
	{impl.Version{Major: 10, Minor: 20, Patch: 300}, "v10.20.300"},
	{impl.Version{Major: 1000000}, "v1000000.0.0"},
	{impl.Version{Minor: 1000000}, "v0.1000000.0"},
	{impl.Version{Patch: 1000000}, "v0.0.1000000"},
	{impl.Version{Major: 1000000, Minor: 1000000, Patch: 1000000, Pre: "12345678.abcdefgh.ABCDEFGH.--------"}, "v1000000.1000000.1000000-12345678.abcdefgh.ABCDEFGH.--------"},
	{impl.Version{Major: 999999, Minor: 999999, Patch: 999999}, "v999999.999999.999999"},
	{impl.Version{Pre: "0"}, "v0.0.0-0"},
	{impl.Version{Pre: "9"}, "v0.0.0-9"},
	{impl.Version{Pre: "a"}, "v0.0.0-a"},
	{impl.Version{Pre: "z"}, "v0.0.0-z"},
	{impl.Version{Pre: "A"}, "v0.0.0-A"},
	{impl.Version{Pre: "Z"}, "v0.0.0-Z"},
	{impl.Version{Pre: "-"}, "v0.0.0--"},
	{impl.Version{Pre: "--"}, "v0.0.0---"},
	{impl.Version{Pre: "-0"}, "v0.0.0--0"},
	{impl.Version{Pre: "-1"}, "v0.0.0--1"},
	{impl.Version{Pre: "0a"}, "v0.0.0-0a"},
	{impl.Version{Pre: "00a"}, "v0.0.0-00a"},
	{impl.Version{Pre: "0-"}, "v0.0.0-0-"},
	{impl.Version{Pre: "00-0"}, "v0.0.0-00-0"},
	{impl.Version{Pre: "v1"}, "v0.0.0-v1"},
	{impl.Version{Pre: "v1.2.3"}, "v0.0.0-v1.2.3"},
	{impl.Version{Pre: "10"}, "v0.0.0-10"},
	{impl.Version{Pre: "99999999"}, "v0.0.0-99999999"},
	{impl.Version{Pre: "10000000"}, "v0.0.0-10000000"},
	{impl.Version{Pre: "0000000a"}, "v0.0.0-0000000a"},
	{impl.Version{Pre: "0.0.0.0"}, "v0.0.0-0.0.0.0"},
	{impl.Version{Pre: "a.b.c.d"}, "v0.0.0-a.b.c.d"},
	{impl.Version{Pre: "a.b.c"}, "v0.0.0-a.b.c"},
	{impl.Version{Major: 1, Pre: "a-b"}, "v1.0.0-a-b"},
	{impl.Version{Major: 1, Minor: 2, Patch: 3, Pre: "rc.1"}, "v1.2.3-rc.1"},
	{impl.Version{Major: 1, Minor: 2, Patch: 3, Pre: "-rc-.-1-"}, "v1.2.3--rc-.-1-"},
}

// wrongPres: what may not stand in Pre, each for a reason of its own.
var wrongPres = []string{
	".", "..", "a.", ".a", "a..b", "a.b.c.", ".a.b.c", "a.b.c.d.", "a.b.c.d.e", "0.0.0.0.0", "a.b.c.d.e.f",
	"abcdefghi", "123456789", "100000000", "---------", "a.abcdefghi", "abcdefghi.a", "a.b.c.abcdefghi",
	"00", "01", "007", "00000000", "00000001", "01234567", "a.01", "01.a", "a.00.b", "1.2.3.04",
	"_", "a_b", "a b", " ", " a", "a ", "+", "a+b", "/", ":", "@", "[", "`", "{", "a,b", "~", "*", "a\n", "\n", "\x00", "a\x00", "\x7f",
	"\x80", "\xff", "a\x80", "\xc3", "\xb1", "\xe1", "é", "ab\u00e9", "ñ.a", "\u0661", "\uff11", "\u0430", "\U0001d7d8", "\u212a", "a\u2024b", "\u2010", "1\ufeff",
	"\ufffd", "0\u0660", "\u0660", "\u017f",
}

// wrongNumbers: numbers that a right version has none of.
var wrongNumbers = []int{-1, -2, -1000000, 1000001, 1000002, 10000000, math.MinInt, math.MaxInt, math.MinInt32, math.MaxInt32, 1 << 32, 1<<32 + 1}

// wrongVersionTexts: texts that no version has; those of wrongPres come beside them.
var wrongVersionTexts = []string{
	"", "v", "V1.2.3", "1.2.3", " v1.2.3", "vv1.2.3", "-v1.2.3", "x1.2.3", "w1.2.3", "\x001.2.3",
	"v.", "v..", "v...", "v1", "v1.", "v1.2", "v1.2.", "v.2.3", "v1..3", "v1.2.3.", "v1.2.3.4", "v.1.2.3", "v1.2.3.4.5",
	"v1-a", "v1.2-a", "v1.2.-a", "v-a", "v-1.2.3", "v1.-2.3", "v1.2.-3", "v--1.2.3", "v+1.2.3", "v1.+2.3", "v1.2.+3",
	"v01.2.3", "v1.02.3", "v1.2.03", "v00.0.0", "v0.00.0", "v0.0.00", "v1.2.3-", "v1.2.3-.", "v0.0.0-", "v1.2.3.-a", "v1.2.3.4-a",
	"v1000001.0.0", "v0.1000001.0", "v0.0.1000001", "v9999999.0.0", "v10000000.0.0", "v0.01000000.0",
	"v9223372036854775807.0.0", "v9223372036854775808.0.0", "v18446744073709551616.0.0", "v18446744073709551617.2.3", "v0.18446744073709551617.0", "v0.0.18446744073709551616",
	"v4294967297.0.0", "v" + strings.Repeat("1", 1000) + ".0.0", "v0.0.1" + strings.Repeat("0", 1000), "v0.0." + strings.Repeat("0", 1000),
	"v1.2.3 ", "v1.2.3\n", "v1.2.3\x00", "v1.2.3a", "v1.2.3+a", "v1.2.3_", "v1.2.3 -a", "v1.2.3v1.2.3", "v1.2.3,", "v1.2.3/a", "v 1.2.3", "v1. 2.3", "v1.2. 3",
	"va.2.3", "v1.b.3", "v1.2.c", "v1a.2.3", "v0x1.2.3", "v1_0.2.3", "v1e3.2.3", "v/.0.0", "v:.0.0", "v0./.0", "v0.0.:",
	"v\x80.2.3", "v1.\xff.3", "v1.2.\xb1", "v\xb1.2.3", "v１.2.3", "v1.２.3", "v1.2.\u0663", "\u20281.2.3", "ｖ1.2.3", "v1\u20242.3", "v1\uff0e2.3", "v1.2.3\u2010a", "v1.2.3\xc2", "\xffv1.2.3", "v\ufeff1.2.3",
}

// versionRow: right versions from the least to the latest.
var versionRow = []string{
	"v0.0.0-0", "v0.0.0-a", "v0.0.0", "v0.0.1-0", "v0.0.1", "v0.0.2", "v0.0.9", "v0.0.10", "v0.0.1000000", "v0.1.0-z", "v0.1.0", "v0.1.1", "v0.2.0", "v0.10.0", "v0.1000000.1000000",
	"v1.0.0-0", "v1.0.0-0.0", "v1.0.0-0.0.0", "v1.0.0-0.0.0.0", "v1.0.0-0.0.0.a", "v1.0.0-0.0.1", "v1.0.0-0.1", "v1.0.0-0.a",
	"v1.0.0-1", "v1.0.0-1.0", "v1.0.0-1.a", "v1.0.0-2", "v1.0.0-9", "v1.0.0-10", "v1.0.0-11", "v1.0.0-99", "v1.0.0-100",
	"v1.0.0-9999999", "v1.0.0-10000000", "v1.0.0-19999999", "v1.0.0-20000000", "v1.0.0-99999998", "v1.0.0-99999999", "v1.0.0-99999999.9",
	"v1.0.0--", "v1.0.0--.0", "v1.0.0---", "v1.0.0--1", "v1.0.0--2", "v1.0.0-0-", "v1.0.0-00-", "v1.0.0-0a", "v1.0.0-1-", "v1.0.0-10a", "v1.0.0-1a", "v1.0.0-1a.0", "v1.0.0-2-",
	"v1.0.0-A", "v1.0.0-A.Z", "v1.0.0-AA", "v1.0.0-Z", "v1.0.0-a", "v1.0.0-a.0", "v1.0.0-a.9", "v1.0.0-a.10", "v1.0.0-a.-", "v1.0.0-a.0b", "v1.0.0-a.9b", "v1.0.0-a.A", "v1.0.0-a.a", "v1.0.0-a.a.0", "v1.0.0-a.a.a", "v1.0.0-a.aa",
	"v1.0.0-a-", "v1.0.0-a-.0", "v1.0.0-a0", "v1.0.0-a1", "v1.0.0-a10", "v1.0.0-a2", "v1.0.0-aA", "v1.0.0-aa", "v1.0.0-alpha", "v1.0.0-alpha.1", "v1.0.0-alpha.beta", "v1.0.0-beta", "v1.0.0-beta.2", "v1.0.0-beta.11", "v1.0.0-rc.1", "v1.0.0-z", "v1.0.0-zzzzzzzz",
	"v1.0.0", "v1.0.1-0", "v1.0.1", "v1.1.0-a", "v1.1.0", "v2.0.0-0", "v2.0.0", "v10.0.0", "v999999.0.0", "v1000000.0.0", "v1000000.1000000.1000000-a", "v1000000.1000000.1000000",
}

// oddVersions: versions, few of them right, from the least to the latest by the words of LessVersion alone.
var oddVersions = []impl.Version{
	{Major: math.MinInt, Minor: math.MaxInt},
	{Major: -1, Minor: 5},
	{Major: -1, Minor: 5, Patch: 1},
	{Minor: math.MinInt},
	{Minor: -1, Patch: 7},
	{Patch: math.MinInt},
	{Patch: -1, Pre: "a"},
	{Patch: -1},
	{Pre: "1"},
	{Pre: "1.0"},
	{Pre: "1."},
	{Pre: "1.."},
	{Pre: "99999999"},
	{Pre: "100000000"},
	{Pre: "9223372036854775807"},
	{Pre: "9223372036854775808"},
	{Pre: "18446744073709551616"},
	{Pre: "18446744073709551617"},
	{Pre: "18446744073709551617.1"},
	{Pre: "1" + strings.Repeat("0", 100)},
	{Pre: "1" + strings.Repeat("0", 99) + "1"},
	{Pre: ".0"},
	{Pre: "."},
	{Pre: ".."},
	{Pre: ".a"},
	{Pre: "\x00"},
	{Pre: " "},
	{Pre: "00"},
	{Pre: "01"},
	{Pre: "1a"},
	{Pre: "1\x80"},
	{Pre: "a.0.b"},
	{Pre: "a..b"},
	{Pre: "a.b.c.d"},
	{Pre: "a.b.c.d.e"},
	{Pre: "a.b.c.d.e.f"},
	{Pre: "a\x00"},
	{Pre: "abcdefghi"},
	{Pre: "abcdefghia"},
	{Pre: "\x80"},
	{Pre: "\x81"},
	{Pre: "\xc3\xa9"},
	{Pre: "\xc3\xa9.1"},
	{Pre: "\xd9\xa1"},
	{Pre: "\xef\xbf\xbd"},
	{Pre: "\xff"},
	{},
	{Patch: math.MaxInt},
	{Minor: 1000001},
	{Minor: math.MaxInt},
	{Major: 1000001, Minor: -1},
	{Major: 1000001},
	{Major: math.MaxInt, Minor: math.MinInt},
	{Major: math.MaxInt, Pre: "a"},
	{Major: math.MaxInt},
}

func parsedVersion(t *testing.T, s string) impl.Version {
	t.Helper()
	v, ok := impl.ParseVersion(s)
	if !ok {
		t.Fatalf("ParseVersion(%q) answers false", s)
	}
	return v
}

func parsedVersions(t *testing.T, l []string) []impl.Version {
	t.Helper()
	vs := make([]impl.Version, 0, len(l))
	for _, s := range l {
		vs = append(vs, parsedVersion(t, s))
	}
	return vs
}

func wantNoVersion(t *testing.T, s string) {
	t.Helper()
	if v, ok := impl.ParseVersion(s); ok || v != (impl.Version{}) {
		t.Errorf("ParseVersion(%q) = %+v, %v; want the zero one, false", s, v, ok)
	}
}

func wantWrongVersion(t *testing.T, v impl.Version) {
	t.Helper()
	if impl.VersionOk(v) {
		t.Errorf("VersionOk(%+v) is true", v)
	}
	if s := impl.VersionText(v); s != "" {
		t.Errorf("VersionText(%+v) = %q; want nothing", v, s)
	}
	for part := -1; part <= 3; part++ {
		wantBump(t, v, part, v)
	}
}

func wantBump(t *testing.T, v impl.Version, part int, want impl.Version) {
	t.Helper()
	if got := impl.Bump(v, part); got != want {
		t.Errorf("Bump(%+v, %d) = %+v; want %+v", v, part, got, want)
	}
}

func wantLatest(t *testing.T, l []impl.Version, want impl.Version) {
	t.Helper()
	if got := impl.Latest(l); got != want {
		t.Errorf("Latest of %d versions is %+v; want %+v", len(l), got, want)
	}
}

// wantRow asks of each two of a row, which begins with the least, whether just the earlier one is less.
func wantRow(t *testing.T, l []impl.Version) {
	t.Helper()
	for i, a := range l {
		for k, b := range l {
			if got := impl.LessVersion(a, b); got != (i < k) {
				t.Errorf("LessVersion(%+v, %+v) = %v", a, b, got)
			}
		}
	}
}

func TestVersionTextsComeBack(t *testing.T) {
	for _, c := range versionTexts {
		if !impl.VersionOk(c.v) {
			t.Errorf("VersionOk(%+v) is false", c.v)
		}
		if s := impl.VersionText(c.v); s != c.text {
			t.Errorf("VersionText(%+v) = %q; want %q", c.v, s, c.text)
		}
		if v, ok := impl.ParseVersion(c.text); !ok || v != c.v {
			t.Errorf("ParseVersion(%q) = %+v, %v; want %+v, true", c.text, v, ok, c.v)
		}
	}
	for _, s := range versionRow {
		if text := impl.VersionText(parsedVersion(t, s)); text != s {
			t.Errorf("VersionText of %q parsed is %q", s, text)
		}
	}
}

func TestWrongVersions(t *testing.T) {
	for _, n := range wrongNumbers {
		for _, pre := range []string{"", "a.1"} {
			wantWrongVersion(t, impl.Version{Major: n, Pre: pre})
			wantWrongVersion(t, impl.Version{Minor: n, Pre: pre})
			wantWrongVersion(t, impl.Version{Patch: n, Pre: pre})
			wantWrongVersion(t, impl.Version{Major: n, Minor: n, Patch: n, Pre: pre})
		}
	}
	for _, pre := range wrongPres {
		wantWrongVersion(t, impl.Version{Major: 1, Minor: 2, Patch: 3, Pre: pre})
		wantWrongVersion(t, impl.Version{Major: 1, Pre: "a." + pre})
		wantWrongVersion(t, impl.Version{Major: 1, Pre: pre + ".a"})
	}
}

func TestWrongVersionTexts(t *testing.T) {
	for _, s := range wrongVersionTexts {
		wantNoVersion(t, s)
	}
	for _, pre := range wrongPres {
		wantNoVersion(t, "v1.2.3-"+pre)
		wantNoVersion(t, "v1.2.3-a."+pre)
		wantNoVersion(t, "v1.2.3-"+pre+".a")
	}
}

func TestEachSignOfVersions(t *testing.T) {
	const right = "abcdefghijklmnopqrstuvwxyzABCDEFGHIJKLMNOPQRSTUVWXYZ0123456789-"
	for c := range 256 {
		sign := string([]byte{byte(c)})
		ok := strings.Contains(right, sign)
		for _, pre := range []string{sign, "a" + sign, sign + "b", "x.a" + sign + "b"} {
			if got := impl.VersionOk(impl.Version{Pre: pre}); got != ok && (c != '.' || pre != "x.a.b") {
				t.Errorf("VersionOk with Pre %q = %v", pre, got)
			}
		}
		if c >= '0' && c <= '9' {
			continue
		}
		wantNoVersion(t, "v1"+sign+".2.3")
		wantNoVersion(t, "v1.2"+sign+".3")
		wantNoVersion(t, "v"+sign+"1.2.3")
		wantNoVersion(t, "v1.2.3"+sign)
		if c != 'v' {
			wantNoVersion(t, sign+"1.2.3")
		}
		if c != '.' {
			wantNoVersion(t, "v1"+sign+"2.3")
		}
	}
}

// What is not cut from a right text, and what is not put into it, cannot pass unseen: each text one byte off is read as it is put, or not at all.
func TestVersionTextsOneByteOff(t *testing.T) {
	for _, c := range versionTexts {
		for i := range len(c.text) {
			wantOwnForm(t, c.text[:i]+c.text[i+1:])
			wantOwnForm(t, c.text[:i]+"0"+c.text[i:])
			wantOwnForm(t, c.text[:i]+"."+c.text[i:])
			wantOwnForm(t, c.text[:i]+"-"+c.text[i:])
			wantOwnForm(t, c.text[:i])
		}
	}
}

func wantOwnForm(t *testing.T, s string) {
	t.Helper()
	v, ok := impl.ParseVersion(s)
	if ok && (impl.VersionText(v) != s || !impl.VersionOk(v)) || !ok && v != (impl.Version{}) {
		t.Errorf("ParseVersion(%q) = %+v, %v, whose text is %q", s, v, ok, impl.VersionText(v))
	}
}

func TestOneOfTwoVersionsIsLess(t *testing.T) {
	wantRow(t, parsedVersions(t, versionRow))
}

func TestOneOfTwoWrongVersionsIsLess(t *testing.T) {
	wantRow(t, oddVersions)
}

func TestLessVersionsGoOn(t *testing.T) {
	l := smallVersions()
	for _, a := range l {
		for _, b := range l {
			if a != b && impl.LessVersion(a, b) == impl.LessVersion(b, a) || a == b && impl.LessVersion(a, b) {
				t.Fatalf("not just one of %+v and %+v is less", a, b)
			}
			if !impl.LessVersion(a, b) {
				continue
			}
			for _, c := range l {
				if impl.LessVersion(b, c) && !impl.LessVersion(a, c) {
					t.Fatalf("%+v is less than %+v, and that than %+v, but not the first than the last", a, b, c)
				}
			}
		}
	}
}

// smallVersions: all of a few numbers and a few Pres, right ones.
func smallVersions() []impl.Version {
	var l []impl.Version
	for n := range 4 {
		for _, pre := range []string{"", "0", "9", "10", "-", "0a", "a", "a.9", "a.10", "a.b", "a.b.0", "aa", "B", "9.a", "10.9", "a-", "a-.b"} {
			l = append(l, impl.Version{Major: n / 2, Patch: n % 2, Pre: pre})
		}
	}
	return l
}

func TestLatest(t *testing.T) {
	wantLatest(t, nil, impl.Version{})
	wantLatest(t, []impl.Version{}, impl.Version{})
	wantLatest(t, []impl.Version{{}}, impl.Version{})
	row := parsedVersions(t, versionRow)
	for i, v := range row {
		wantLatest(t, []impl.Version{v}, v)
		wantLatest(t, []impl.Version{v, v}, v)
		wantLatest(t, []impl.Version{v, row[0], v}, v)
		wantLatest(t, row[:i+1], v)
		back := slices.Clone(row[:i+1])
		slices.Reverse(back)
		wantLatest(t, back, v)
		wantLatest(t, append(back, row[:i]...), v)
		wantLatest(t, slices.Concat(row[:i/2], []impl.Version{v}, row[i/2:i]), v)
	}
}

func TestLatestOfWrongVersions(t *testing.T) {
	for i, v := range oddVersions {
		wantLatest(t, []impl.Version{v}, v)
		wantLatest(t, oddVersions[:i+1], v)
		back := slices.Clone(oddVersions[:i+1])
		slices.Reverse(back)
		wantLatest(t, back, v)
	}
}

func TestBump(t *testing.T) {
	for _, pre := range []string{"", "rc", "a.1", "0"} {
		v := impl.Version{Major: 1, Minor: 2, Patch: 3, Pre: pre}
		wantBump(t, v, 0, impl.Version{Major: 2})
		wantBump(t, v, 1, impl.Version{Major: 1, Minor: 3})
		wantBump(t, v, 2, impl.Version{Major: 1, Minor: 2, Patch: 4})
		for _, part := range []int{-1, 3, 4, 100, math.MinInt, math.MaxInt} {
			wantBump(t, v, part, v)
		}
	}
	wantBump(t, impl.Version{}, 0, impl.Version{Major: 1})
	wantBump(t, impl.Version{}, 1, impl.Version{Minor: 1})
	wantBump(t, impl.Version{}, 2, impl.Version{Patch: 1})
}

func TestBumpAtTheLimit(t *testing.T) {
	for _, pre := range []string{"", "rc.1"} {
		most := impl.Version{Major: 1000000, Minor: 1000000, Patch: 1000000, Pre: pre}
		near := impl.Version{Major: 999999, Minor: 999999, Patch: 999999, Pre: pre}
		for part := range 3 {
			wantBump(t, most, part, most)
		}
		wantBump(t, near, 0, impl.Version{Major: 1000000})
		wantBump(t, near, 1, impl.Version{Major: 999999, Minor: 1000000})
		wantBump(t, near, 2, impl.Version{Major: 999999, Minor: 999999, Patch: 1000000})
		wantBump(t, impl.Version{Major: 7, Minor: 1000000, Patch: 1000000, Pre: pre}, 0, impl.Version{Major: 8})
		wantBump(t, impl.Version{Major: 7, Minor: 8, Patch: 1000000, Pre: pre}, 1, impl.Version{Major: 7, Minor: 9})
		wantBump(t, impl.Version{Major: 1000000, Minor: 1000000, Patch: 9}, 2, impl.Version{Major: 1000000, Minor: 1000000, Patch: 10})
	}
}

func TestBumpIsLater(t *testing.T) {
	for _, v := range parsedVersions(t, versionRow) {
		for part := range 3 {
			next := impl.Bump(v, part)
			if !impl.VersionOk(next) || next != v && (!impl.LessVersion(v, next) || next.Pre != "") {
				t.Errorf("Bump(%+v, %d) = %+v", v, part, next)
			}
		}
	}
}

func TestVersionsLeaveTheirListAlone(t *testing.T) {
	all := append(parsedVersions(t, versionRow), impl.Version{Major: 1000000, Minor: 1000000, Patch: 1000000}, impl.Version{Major: math.MaxInt})
	kept := slices.Clone(all)
	for n := range all {
		impl.Latest(all[:n])
		if !slices.Equal(all, kept) {
			t.Fatalf("Latest of %d wrote into its list, or behind it", n)
		}
	}
	wantLatest(t, all[:3], kept[2])
}
