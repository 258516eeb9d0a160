package tests

import (
	"math"
	"regexp"
	"strconv"
	"strings"
	"testing"
	"unsafe"

	"loop.example/g00233/impl"
)

const (
	part20 = "abcdefghijklmnopqrst"
	part19 = "abcdefghijklmnopqrs"
	part18 = "abcdefghijklmnopqr"
)

// rightPaths: right paths, with the Major and the Base that the document asks for.
var rightPaths = []struct {
	path  string
	major int
	base  string
}{
	{"a", 1, "a"},
	{"z", 1, "z"},
	{"0", 1, "0"},
	{"9", 1, "9"},
	{"x1", 1, "x1"},
	{"a.org", 1, "a.org"},
	{"a.org/x", 1, "a.org/x"},
	{"a_b.c-d", 1, "a_b.c-d"},
	{"a-", 1, "a-"},
	{"a.", 1, "a."},
	{"a_", 1, "a_"},
	{"0--..__", 1, "0--..__"},
	{"a/b/c", 1, "a/b/c"},
	{"a/b/c/d", 1, "a/b/c/d"},
	{"a/b/c/d/e", 1, "a/b/c/d/e"},
	{"a/b/c/d/e/f", 1, "a/b/c/d/e/f"},
	{"0/1/2/3/4/5", 1, "0/1/2/3/4/5"},
	{part20, 1, part20},
	{part20 + "/" + part20, 1, part20 + "/" + part20},
	{part20 + "/" + part20 + "/" + part18, 1, part20 + "/" + part20 + "/" + part18},
	{part18 + "/" + part18 + "/" + part18 + "/v2", 2, part18 + "/" + part18 + "/" + part18},
	{part19 + "/" + part18 + "/" + part18 + "/v2", 2, part19 + "/" + part18 + "/" + part18},

	{"a/v2", 2, "a"},
	{"a/v3", 3, "a"},
	{"a/v9", 9, "a"},
	{"a/v10", 10, "a"},
	{"a/v11", 11, "a"},
	{"a/v19", 19, "a"},
	{"a/v20", 20, "a"},
	{"a/v99", 99, "a"},
	{"a/v100", 100, "a"},
	{"a/v101", 101, "a"},
	{"a/v999", 999, "a"},
	{"a/v1000", 1000, "a"},
	{"a.org/x/v2", 2, "a.org/x"},
	{"a/b/c/v2", 2, "a/b/c"},
	{"a/b/c/d/v2", 2, "a/b/c/d"},
	{"a/b/c/d/e/v2", 2, "a/b/c/d/e"},
	{"2/v2", 2, "2"},
	{"v/v2", 2, "v"},
	{"v1/v2", 2, "v1"},
	{"v2/v2", 2, "v2"},
	{"v2/v3", 3, "v2"},
	{"a/v2/v3", 3, "a/v2"},
	{"a/v3/v2", 2, "a/v3"},
	{"a/v2/v2", 2, "a/v2"},
	{"v2/v3/v4/v5/v6/v7", 7, "v2/v3/v4/v5/v6"},
	{"a-/v2", 2, "a-"},

	{"v", 1, "v"},
	{"v0", 1, "v0"},
	{"v1", 1, "v1"},
	{"v2", 1, "v2"},
	{"v10", 1, "v10"},
	{"v1000", 1, "v1000"},
	{"v1001", 1, "v1001"},
	{"a/v", 1, "a/v"},
	{"a/v0", 1, "a/v0"},
	{"a/v1", 1, "a/v1"},
	{"a/v00", 1, "a/v00"},
	{"a/v01", 1, "a/v01"},
	{"a/v02", 1, "a/v02"},
	{"a/v002", 1, "a/v002"},
	{"a/v010", 1, "a/v010"},
	{"a/v01000", 1, "a/v01000"},
	{"a/v1001", 1, "a/v1001"},
	{"a/v1002", 1, "a/v1002"},
	{"a/v1999", 1, "a/v1999"},
	{"a/v2000", 1, "a/v2000"},
	{"a/v9999", 1, "a/v9999"},
	{"a/v10000", 1, "a/v10000"},
	{"a/v65538", 1, "a/v65538"},
	{"a/v4294967298", 1, "a/v4294967298"},
	{"a/v1000000000000000002", 1, "a/v1000000000000000002"},
	{"a/v9223372036854775807", 1, "a/v9223372036854775807"},
	{"a/v9999999999999999999", 1, "a/v9999999999999999999"},
	{"a/v0000000000000000002", 1, "a/v0000000000000000002"},
	{"a/2", 1, "a/2"},
	{"a/x2", 1, "a/x2"},
	{"a/w2", 1, "a/w2"},
	{"a/vv2", 1, "a/vv2"},
	{"a/2v", 1, "a/2v"},
	{"a/v2v", 1, "a/v2v"},
	{"a/v2a", 1, "a/v2a"},
	{"a/va2", 1, "a/va2"},
	{"a/av2", 1, "a/av2"},
	{"a/v2.0", 1, "a/v2.0"},
	{"a/v2.", 1, "a/v2."},
	{"a/v2-", 1, "a/v2-"},
	{"a/v2_", 1, "a/v2_"},
	{"a/v-2", 1, "a/v-2"},
	{"a/v.2", 1, "a/v.2"},
	{"a/v_2", 1, "a/v_2"},
	{"a/v1_0", 1, "a/v1_0"},
	{"a/v1e1", 1, "a/v1e1"},
	{"a/v0x2", 1, "a/v0x2"},
	{"a.v2", 1, "a.v2"},
	{"a-v2", 1, "a-v2"},
	{"a_v2", 1, "a_v2"},
	{"av2", 1, "av2"},
	{"v2/a", 1, "v2/a"},
	{"a/v2/b", 1, "a/v2/b"},
	{"a/v2/v", 1, "a/v2/v"},
	{"a/v2/v1", 1, "a/v2/v1"},
	{"a/v2/v02", 1, "a/v2/v02"},
	{"a/v2/v1001", 1, "a/v2/v1001"},
	{"v2/v3/v4/v5/v6/a", 1, "v2/v3/v4/v5/v6/a"},
}

// wrongPaths: what is no path, each for a reason of its own; some would have a Major, were they one.
var wrongPaths = []string{
	"", "/", "//", "///", "/a", "a/", "//a", "a//", "a//b", "a//v2", "/a/v2", "a/v2/", "/v2", "v2/", "a/b//c", "a/b/c/", "/a/b/c", "a/b/c/d/e/", "/b/c/d/e/f",
	"a/b/c/d/e/f/g", "a/b/c/d/e/f/", "/a/b/c/d/e/f", "a/b/c/d/e/f/v2", "a/b/c/d/e/f/g/h", "v2/v3/v4/v5/v6/v7/v8", "//////",
	"twentyonebytes-twenty", part20 + "u", part20 + "u/v2", "a/" + part20 + "u", "a/" + part20 + "u/b", "a/v" + strings.Repeat("0", 19) + "2", "a/v10000000000000000002", "a/v18446744073709551618",
	part20 + "/" + part20 + "/" + part19, part20 + "/" + part20 + "/" + part20, part20 + "/" + part19 + "/" + part18 + "/v2", part19 + "/" + part19 + "/" + part18 + "/v2", strings.Repeat("a", 60), strings.Repeat("a", 61), strings.Repeat("a", 100000), strings.Repeat("/", 100000), strings.Repeat("a/", 50000) + "v2",
	"A", "Z", "aB", "a/B", "A/b", "a/V2", "A/v2", "aZ/v2", "a.ORG/v2",
	"-", ".", "_", "-a", ".a", "_a", "..", "--", "__", "./a", "../a", "a/.", "a/..", "a/-", "a/_", "a/-b", "a/.b", "a/_b", "-a/v2", ".a/v2", "_a/v2", "a/-/v2", "a/-v2", "a/.v2", "a/_v2",
	" ", " a", "a ", "a b", "a/ v2", "a/v2 ", "a /v2", "a/v 2", "a/v+2", "a/v2+", "a+b", "a@v2", "a/v2@v2.0.0", "a:b", "a\\b", "a\\v2", "a,b", "a~", "a!", "a#", "a%2f", "a*", "a?", "a=b", "a;b", "a'b", "a\"b", "a`", "a{", "a[", "a|b", "a\t", "a\n", "\na", "a/v2\n", "a\r", "\x00", "a\x00", "a/v2\x00", "\x00a", "\x7f", "a\x7f",
	"\x80", "\xff", "a\x80", "a\xff", "a\x80/v2", "a/v2\x80", "a/v\xb2", "a\xaf\x76\x32", "a\xc0\xafv2", "\xe1", "\xe1b",
	"é", "aé", "éa", "é/v2", "a/é", "a/vé", "a\u0301", "\u0430", "a\u0430", "a/\u0432", "a/v\u0662", "a/v\uff12", "a/\uff562", "a\u2044v2", "a\uff0fv2", "a\u2024b", "a\u2010b", "a\u203f", "\u212a", "a\u017f", "a\ufeff", "\ufeffa", "\ufffd", "a\ufffd", "\U0001d41a", "a/v\U0001d7d0", "a\u0161", "a\u012f", "a/v\u0132",
}

// modelPath and modelMajor say in another way what the program works out part by part.
var (
	modelPath  = regexp.MustCompile(`^[a-z0-9][a-z0-9._-]{0,19}(/[a-z0-9][a-z0-9._-]{0,19}){0,5}$`)
	modelMajor = regexp.MustCompile(`^(.+)/v([2-9]|[1-9][0-9]{1,2}|1000)$`)
)

// wantLikeModel asks of any text what the two patterns say of it.
func wantLikeModel(t *testing.T, s string) {
	t.Helper()
	if len(s) > 60 || !modelPath.MatchString(s) {
		wantWrongPath(t, s)
		return
	}
	major, base := 1, s
	if m := modelMajor.FindStringSubmatch(s); m != nil {
		major, _ = strconv.Atoi(m[2])
		base = m[1]
	}
	wantPath(t, s, major, base)
}

func wantPath(t *testing.T, path string, major int, base string) {
	t.Helper()
	if !impl.PathOk(path) {
		t.Errorf("PathOk(%q) is false", path)
	}
	if got := impl.MajorOf(path); got != major {
		t.Errorf("MajorOf(%q) = %d; want %d", path, got, major)
	}
	if got := impl.Base(path); got != base {
		t.Errorf("Base(%q) = %q; want %q", path, got, base)
	}
}

func wantWrongPath(t *testing.T, s string) {
	t.Helper()
	if impl.PathOk(s) {
		t.Errorf("PathOk(%.200q) is true", s)
	}
	if got := impl.MajorOf(s); got != 0 {
		t.Errorf("MajorOf(%.200q) = %d; want 0", s, got)
	}
	if got := impl.Base(s); got != "" {
		t.Errorf("Base(%.200q) = %.200q; want nothing", s, got)
	}
	for major := range 4 {
		wantFits(t, s, impl.Version{Major: major}, false)
	}
}

func wantFits(t *testing.T, path string, v impl.Version, want bool) {
	t.Helper()
	if got := impl.Fits(path, v); got != want {
		t.Errorf("Fits(%.200q, %+v) = %v; want %v", path, v, got, want)
	}
}

// fitsMajor: whether a right version of this Major fits a path of that one.
func fitsMajor(pathMajor, major int) bool {
	return major == pathMajor || pathMajor == 1 && major == 0
}

func TestRightPaths(t *testing.T) {
	for _, c := range rightPaths {
		wantPath(t, c.path, c.major, c.base)
		wantLikeModel(t, c.path)
	}
}

func TestWrongPaths(t *testing.T) {
	for _, s := range wrongPaths {
		wantWrongPath(t, s)
		wantLikeModel(t, s)
	}
}

func TestPathPartCounts(t *testing.T) {
	for n := range 10 {
		s := strings.Join(strings.Split("abcdefghi"[:n], ""), "/")
		if got := impl.PathOk(s); got != (n >= 1 && n <= 6) {
			t.Errorf("PathOk of %d parts is %v", n, got)
		}
		wantLikeModel(t, s)
		wantLikeModel(t, s+"/v2")
	}
}

func TestPathSizes(t *testing.T) {
	for n := range 64 {
		s := strings.Repeat("a", n)
		if got := impl.PathOk(s); got != (n >= 1 && n <= 20) {
			t.Errorf("PathOk of a part of %d bytes is %v", n, got)
		}
		wantLikeModel(t, "x/"+s)
		wantLikeModel(t, s+"/v2")
		wantLikeModel(t, "x/"+s+"/y")
		if n < 44 || n > 62 {
			continue
		}
		whole := part20 + "/" + part20 + "/" + s[42:]
		if got := impl.PathOk(whole); len(whole) != n || got != (n <= 60) {
			t.Errorf("PathOk of %d bytes in all is %v", len(whole), got)
		}
		wantLikeModel(t, whole)
	}
}

func TestEachSignOfPaths(t *testing.T) {
	const first = "abcdefghijklmnopqrstuvwxyz0123456789"
	const later = first + "-._"
	for c := range 256 {
		sign := string([]byte{byte(c)})
		for _, s := range []string{sign, sign + "a", "a/" + sign, "a/" + sign + "a", sign + "/v2"} {
			if got := impl.PathOk(s); got != strings.Contains(first, sign) {
				t.Errorf("PathOk(%q) = %v", s, got)
			}
		}
		for _, s := range []string{"a" + sign, "a" + sign + "b", "x/a" + sign + "b", "a" + sign + "/v2", "a/v2" + sign} {
			want := strings.Contains(later, sign) || c == '/' && strings.Contains(s, "a/b")
			if got := impl.PathOk(s); got != want {
				t.Errorf("PathOk(%q) = %v", s, got)
			}
			wantLikeModel(t, s)
		}
	}
}

func TestEachNumberOfPaths(t *testing.T) {
	for n := range 12000 {
		digits := strconv.Itoa(n)
		path, major, base := "a.org/x/v"+digits, 1, "a.org/x/v"+digits
		if n >= 2 && n <= 1000 {
			major, base = n, "a.org/x"
		}
		wantPath(t, path, major, base)
		wantPath(t, "a.org/x/v0"+digits, 1, "a.org/x/v0"+digits)
		wantPath(t, "v"+digits, 1, "v"+digits)
		wantPath(t, "a/v"+digits+"/x", 1, "a/v"+digits+"/x")
	}
}

func TestSmallPaths(t *testing.T) {
	texts := []string{""}
	for at := 0; len(texts[at]) < 5; at++ {
		for _, sign := range []string{"a", "v", "0", "1", "2", "/", "-", "V"} {
			texts = append(texts, texts[at]+sign)
		}
	}
	for _, s := range texts {
		wantLikeModel(t, s)
		wantLikeModel(t, "x/"+s)
	}
}

// Each text one byte off a right path is asked, too, so that a path is right by all of its bytes.
func TestPathsOneByteOff(t *testing.T) {
	for _, c := range rightPaths {
		for i := range len(c.path) + 1 {
			wantLikeModel(t, c.path[:i])
			wantLikeModel(t, c.path[i:])
			for _, sign := range []string{"/", "v", "0", "2", "-", "A", "\x80", "é"} {
				wantLikeModel(t, c.path[:i]+sign+c.path[i:])
				if i < len(c.path) {
					wantLikeModel(t, c.path[:i]+sign+c.path[i+1:])
				}
			}
			if i < len(c.path) {
				wantLikeModel(t, c.path[:i]+c.path[i+1:])
			}
		}
	}
}

func TestBaseIsAPath(t *testing.T) {
	for _, c := range rightPaths {
		base := impl.Base(c.path)
		if !impl.PathOk(base) {
			t.Errorf("Base(%q) = %q, which is no path", c.path, base)
		}
		if (base == c.path) != (impl.MajorOf(c.path) == 1) {
			t.Errorf("Base(%q) = %q, where MajorOf is %d", c.path, base, impl.MajorOf(c.path))
		}
		if base != c.path && base+"/v"+strconv.Itoa(impl.MajorOf(c.path)) != c.path {
			t.Errorf("Base(%q) = %q does not come back", c.path, base)
		}
	}
}

func TestFits(t *testing.T) {
	wantFits(t, "a", impl.Version{}, true)
	wantFits(t, "a", impl.Version{Major: 1}, true)
	wantFits(t, "a", impl.Version{Major: 2}, false)
	wantFits(t, "a/v2", impl.Version{}, false)
	wantFits(t, "a/v2", impl.Version{Major: 1}, false)
	wantFits(t, "a/v2", impl.Version{Major: 2}, true)
	wantFits(t, "a/v2", impl.Version{Major: 3}, false)
	wantFits(t, "a/v1000", impl.Version{Major: 1000}, true)
	wantFits(t, "a/v1000", impl.Version{}, false)
	wantFits(t, "a/v1001", impl.Version{Major: 1001}, false)
	wantFits(t, "a/v1001", impl.Version{Major: 1}, true)
	wantFits(t, "a/v1001", impl.Version{}, true)
	wantFits(t, "v2", impl.Version{Major: 2}, false)
	wantFits(t, "v2", impl.Version{Major: 1}, true)
	wantFits(t, "a/v02", impl.Version{Major: 2}, false)
	wantFits(t, "a/v02", impl.Version{Major: 1}, true)
	wantFits(t, "a/v0", impl.Version{}, true)
	wantFits(t, "a/v2/b", impl.Version{Major: 2}, false)
	wantFits(t, "a/v2/b", impl.Version{}, true)
}

// Promise 4: what fits a path still does with another minor number (and with another Patch, or Pre), and what does not fit still does not.
func TestFitsHangsOnMajorAlone(t *testing.T) {
	majors := []int{0, 1, 2, 3, 7, 9, 10, 11, 99, 100, 999, 1000, 1001, 9999, 1000000}
	numbers := []int{0, 1, 2, 10, 999999, 1000000}
	for _, c := range rightPaths {
		for _, major := range append([]int{c.major}, majors...) {
			want := fitsMajor(c.major, major)
			for _, n := range numbers {
				wantFits(t, c.path, impl.Version{Major: major, Minor: n}, want)
				wantFits(t, c.path, impl.Version{Major: major, Patch: n}, want)
				wantFits(t, c.path, impl.Version{Major: major, Minor: n, Patch: 1000000 - n, Pre: "rc.1"}, want)
				wantFits(t, c.path, impl.Version{Major: major, Minor: n, Patch: n, Pre: "0"}, want)
			}
		}
	}
}

func TestFitsBumped(t *testing.T) {
	for _, c := range rightPaths {
		v := impl.Version{Major: c.major, Minor: 4, Patch: 5, Pre: "a"}
		wantFits(t, c.path, v, true)
		wantFits(t, c.path, impl.Bump(v, 2), true)
		wantFits(t, c.path, impl.Bump(v, 1), true)
		wantFits(t, c.path, impl.Bump(v, 0), false)
	}
}

func TestWrongVersionsDoNotFit(t *testing.T) {
	for _, c := range rightPaths {
		for _, n := range wrongNumbers {
			wantFits(t, c.path, impl.Version{Major: n}, false)
			wantFits(t, c.path, impl.Version{Major: c.major, Minor: n}, false)
			wantFits(t, c.path, impl.Version{Major: c.major, Patch: n}, false)
			wantFits(t, c.path, impl.Version{Minor: n, Patch: n}, false)
		}
		for _, pre := range wrongPres {
			wantFits(t, c.path, impl.Version{Major: c.major, Pre: pre}, false)
			wantFits(t, c.path, impl.Version{Pre: pre}, false)
		}
	}
}

func TestWrongPathsFitNothing(t *testing.T) {
	for _, s := range wrongPaths {
		for _, major := range []int{-1, 0, 1, 2, 3, 1000, math.MinInt, math.MaxInt} {
			wantFits(t, s, impl.Version{Major: major}, false)
			wantFits(t, s, impl.Version{Major: major, Minor: 1, Patch: 2, Pre: "a"}, false)
		}
	}
}

func TestBaseSharesNothing(t *testing.T) {
	for _, c := range rightPaths {
		path := strings.Clone(c.path)
		impl.Fits(path, impl.Version{Major: impl.MajorOf(path)})
		base := impl.Base(path)
		if path != c.path {
			t.Errorf("%q was written into: %q", c.path, path)
		}
		from := uintptr(unsafe.Pointer(unsafe.StringData(path)))
		at := uintptr(unsafe.Pointer(unsafe.StringData(base)))
		if at >= from && at < from+uintptr(len(path)) {
			t.Errorf("Base(%q) is a piece of its argument", path)
		}
	}
}
