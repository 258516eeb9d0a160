package tests

import (
	"encoding/hex"
	"fmt"
	"regexp"
	"slices"
	"strconv"
	"strings"
	"testing"

	"loop.example/g00233/impl"
)

var modelLock = regexp.MustCompile(`^index (0|[1-9][0-9]{0,2}) ([0-9a-f]{64})\n((?:[^\n]+\n)*)$`)

// lockedAs lays a lock out as if head and needs were right.
func lockedAs(h impl.Head, list []impl.Need) string {
	return lockLines(h.Size, fmt.Sprintf("%x", h.Root), namesOf(list)...)
}

// lockLines lays a lock out of a size, hex digits and names, right or not.
func lockLines(size any, digits string, names ...string) string {
	text := fmt.Sprintf("index %v %s\n", size, digits)
	for _, name := range names {
		text += name + "\n"
	}
	return text
}

func namesOf(l []impl.Need) []string {
	var names []string
	for _, n := range l {
		names = append(names, nameOf(n))
	}
	return names
}

// isLockListByModel: isNeedsByModel with another limit.
func isLockListByModel(list []impl.Need) bool {
	for i := range list {
		if !isNeedsByModel(list[max(i-1, 0) : i+1]) {
			return false
		}
	}
	return len(list) <= 60
}

func isLockByModel(h impl.Head, list []impl.Need) bool {
	return h.Size >= 0 && h.Size <= 200 && len(h.Root) == 32 && isLockListByModel(list)
}

// parseLockByModel says by a pattern what head and names a text is a lock of.
func parseLockByModel(s string) (impl.Head, []impl.Need, bool) {
	m := modelLock.FindStringSubmatch(s)
	if m == nil {
		return zeroHead, nil, false
	}
	size, _ := strconv.Atoi(m[1])
	root, _ := hex.DecodeString(m[2])
	h := impl.Head{Size: size, Root: string(root)}
	var list []impl.Need
	for _, name := range strings.Split(m[3], "\n") {
		n, ok := needByModel(name)
		if name != "" && !ok {
			return zeroHead, nil, false
		}
		if name != "" {
			list = append(list, n)
		}
	}
	if !isLockByModel(h, list) {
		return zeroHead, nil, false
	}
	return h, list, true
}

// wantLock: head and list have just this text, and come back of it.
func wantLock(t *testing.T, h impl.Head, list []impl.Need, text string) {
	t.Helper()
	if got := impl.LockText(h, list); got != text {
		t.Errorf("LockText of %d, %x, %.300q = %.500q; want %.500q", h.Size, h.Root, fmt.Sprint(list), got, text)
	}
	wantReadLock(t, text, h, list)
}

func wantReadLock(t *testing.T, text string, h impl.Head, list []impl.Need) {
	t.Helper()
	if got, needs, ok := impl.ParseLock(text); !ok || got != h || !slices.Equal(needs, list) {
		t.Errorf("ParseLock(%.500q) = %d, %x, %.300q, %v; want %d, %x, %.300q, true", text, got.Size, got.Root, fmt.Sprint(needs), ok, h.Size, h.Root, fmt.Sprint(list))
	}
}

func wantNoLock(t *testing.T, text string) {
	t.Helper()
	if h, list, ok := impl.ParseLock(text); ok || h != zeroHead || len(list) != 0 {
		t.Errorf("ParseLock(%.500q) = %d, %x, %.300q, %v; want the zero one, nothing, false", text, h.Size, h.Root, fmt.Sprint(list), ok)
	}
}

// wantNoLockOf: they have no text, and the one that they would have, were they right, is no lock.
func wantNoLockOf(t *testing.T, h impl.Head, list []impl.Need) {
	t.Helper()
	if got := impl.LockText(h, list); got != "" {
		t.Errorf("LockText of %d, %x, %.300q = %.500q; want nothing", h.Size, h.Root, fmt.Sprint(list), got)
	}
	wantNoLock(t, lockedAs(h, list))
}

// wantLockOf asks of head and list what the model says of them.
func wantLockOf(t *testing.T, h impl.Head, list []impl.Need) {
	t.Helper()
	if isLockByModel(h, list) {
		wantLock(t, h, list, lockedAs(h, list))
		return
	}
	wantNoLockOf(t, h, list)
}

// wantLockLikeModel answers whether the text is a lock. What is read, written again, is the same text.
func wantLockLikeModel(t *testing.T, text string) bool {
	t.Helper()
	h, list, ok := parseLockByModel(text)
	if !ok {
		wantNoLock(t, text)
		return false
	}
	wantLock(t, h, list, text)
	return true
}

// lockLists: right lists of no, one and several needs, up to the limit.
func lockLists() [][]impl.Need {
	return [][]impl.Need{
		nil,
		needsOf("a@v0.0.0"),
		needsOf("a@v1.2.3-rc.1"),
		needsOf("b/v2@v2.0.0"),
		needsOf(longPath + "@" + longVersionText),
		needsOf("a@v1.2.0", "b/v2@v2.0.0"),
		needsOf("a@v0.1.0", "a/v2@v2.1.0", "a/v2/v3@v3.0.0-0", "v2@v1.0.0"),
		needsOfPaths(pathRow...),
		treeNames(0, 60),
	}
}

func lockHeads() []impl.Head {
	heads := []impl.Head{impl.HeadOf(nil), impl.HeadOf([]string{"a"}), impl.HeadOf(manyTexts(200))}
	for _, size := range []int{0, 1, 9, 10, 42, 99, 100, 199, 200} {
		for _, letter := range []string{"\x00", "\n", " ", "0", "a", "\x80", "\xff"} {
			heads = append(heads, headWith(size, letter))
		}
	}
	return heads
}

func TestLocksByHand(t *testing.T) {
	const digits = "000102030405060708090a0b0c0d0e0f101112131415161718191a1b1c1dfeff"
	root := "\x00\x01\x02\x03\x04\x05\x06\x07\x08\x09\x0a\x0b\x0c\x0d\x0e\x0f\x10\x11\x12\x13\x14\x15\x16\x17\x18\x19\x1a\x1b\x1c\x1d\xfe\xff"
	for size, first := range map[int]string{0: "index 0 ", 1: "index 1 ", 10: "index 10 ", 200: "index 200 "} {
		h := impl.Head{Size: size, Root: root}
		first += digits + "\n"
		wantLock(t, h, nil, first)
		wantLock(t, h, []impl.Need{{Path: "a"}}, first+"a@v0.0.0\n")
		wantLock(t, h, []impl.Need{{Path: "a", V: impl.Version{Major: 1, Minor: 2, Patch: 3, Pre: "rc.1"}}}, first+"a@v1.2.3-rc.1\n")
		wantLock(t, h, []impl.Need{
			{Path: "a.org/x", V: impl.Version{Minor: 10}},
			{Path: "a.org/x/v2", V: impl.Version{Major: 2, Pre: "0"}},
			{Path: "b", V: impl.Version{Major: 1, Minor: 1000000}},
		}, first+"a.org/x@v0.10.0\na.org/x/v2@v2.0.0-0\nb@v1.1000000.0\n")
	}
	h := impl.Head{Root: "\xe3\xb0\xc4\x42\x98\xfc\x1c\x14\x9a\xfb\xf4\xc8\x99\x6f\xb9\x24\x27\xae\x41\xe4\x64\x9b\x93\x4c\xa4\x95\x99\x1b\x78\x52\xb8\x55"}
	wantLock(t, h, nil, "index 0 e3b0c44298fc1c149afbf4c8996fb92427ae41e4649b934ca495991b7852b855\n")
	wantLock(t, impl.HeadOf(nil), nil, "index 0 e3b0c44298fc1c149afbf4c8996fb92427ae41e4649b934ca495991b7852b855\n")
}

// Promise 17: locks come back of their texts.
func TestLocksComeBack(t *testing.T) {
	for _, h := range lockHeads() {
		for _, list := range lockLists() {
			text := lockedAs(h, list)
			wantLock(t, h, list, text)
			if !wantLockLikeModel(t, text) {
				t.Errorf("the model knows no lock of %d and %v", h.Size, list)
			}
		}
	}
}

func TestEachSizeOfALock(t *testing.T) {
	root := sumOf("root")
	for size := -3; size <= 1100; size++ {
		wantLockOf(t, impl.Head{Size: size, Root: root}, nil)
		wantLockOf(t, impl.Head{Size: size, Root: root}, needsOf("a@v1.0.0", "b@v1.0.0"))
	}
}

// Every byte may stand in a root, at every place.
func TestEachByteOfARoot(t *testing.T) {
	for c := range 256 {
		wantLock(t, headWith(7, string([]byte{byte(c)})), nil, "index 7 "+strings.Repeat(fmt.Sprintf("%02x", c), 32)+"\n")
		for at := range 32 {
			root := []byte(sumOf("root"))
			root[at] = byte(c)
			wantLockOf(t, impl.Head{Size: 3, Root: string(root)}, needsOf("a@v1.0.0"))
		}
	}
}

// Of just MaxReach needs there is a lock, of one more there is none.
func TestHowManyNeedsALockHas(t *testing.T) {
	h := headWith(3, "h")
	for n := range 140 {
		wantLockOf(t, h, treeNames(0, n))
		if got := impl.LockText(h, treeNames(0, n)) != ""; got != (n <= impl.MaxReach) {
			t.Errorf("whether there is a lock of %d needs: %v", n, got)
		}
	}
	for _, n := range []int{256, 257, 300, 1000, 5000} {
		wantNoLockOf(t, h, treeNames(0, n))
	}
	wantNoLock(t, lockedAs(h, treeNames(0, 60))+"z@v1.0.0\n")
	wantNoLock(t, lockedAs(h, treeNames(0, 60))+strings.Repeat("z@v1.0.0\n", 5000))
	wantNoLock(t, lockedAs(h, treeNames(0, 60))+strings.Repeat("\n", 5000))
}

// An empty list and nil are the same.
func TestLocksOfEmptyLists(t *testing.T) {
	h := headWith(2, "h")
	for _, list := range [][]impl.Need{nil, {}, make([]impl.Need, 0, 5), needsOf("a@v1.0.0")[:0]} {
		wantLock(t, h, list, lockedAs(h, nil))
	}
}

// Whatever fits is named in a lock, and nothing that does not; where the path's number is 1, the Major is 1 or 0.
func TestNamesInLocks(t *testing.T) {
	h := headWith(200, "h")
	for _, p := range rightPaths {
		for _, c := range versionTexts {
			n := impl.Need{Path: p.path, V: c.v}
			wantLockOf(t, h, []impl.Need{n})
			if fits := impl.LockText(h, []impl.Need{n}) != ""; fits != fitsMajor(p.major, c.v.Major) {
				t.Errorf("whether a lock has %q: %v", nameOf(n), fits)
			}
		}
		for _, major := range []int{0, 1, 2, 3, p.major, 1000, 1000000} {
			for _, pre := range []string{"", "0", "rc.1", "-.--.---.----"} {
				wantLockOf(t, h, []impl.Need{{Path: p.path, V: impl.Version{Major: major, Pre: pre}}})
			}
		}
	}
	wantLock(t, h, needsOf("a@v0.0.0", "b@v1.0.0", "c/v1@v0.1.0", "d/v1@v1.1.0"), lockLines(200, strings.Repeat("68", 32), "a@v0.0.0", "b@v1.0.0", "c/v1@v0.1.0", "d/v1@v1.1.0"))
}

// Paths that are alike at their beginnings, with versions that go up or down: the order is that of the paths alone.
func TestLocksAscendByPath(t *testing.T) {
	h := headWith(9, "h")
	names := needsOfPaths(pathRow...)
	for i, a := range names {
		for k, b := range names {
			if i == k {
				wantNoLockOf(t, h, []impl.Need{a, b})
				b.V.Minor++
			}
			b.V.Pre = "rc.1"
			wantLockOf(t, h, []impl.Need{a, b})
			if got := impl.LockText(h, []impl.Need{a, b}) != ""; got != (i < k) {
				t.Errorf("whether there is a lock of %q and %q: %v", nameOf(a), nameOf(b), got)
			}
		}
	}
}

func TestHeadsThatAreNoneHaveNoLock(t *testing.T) {
	heads := wrongHeads()
	for _, size := range []int{0, 1, 200} {
		for _, n := range []int{0, 1, 2, 16, 30, 31, 33, 34, 64, 288} {
			heads = append(heads, impl.Head{Size: size, Root: strings.Repeat("r", n)})
		}
	}
	for _, h := range heads {
		for _, list := range lockLists() {
			wantNoLockOf(t, h, list)
		}
	}
}

// wrongLockLists: lists that are not right, each for a reason of its own.
func wrongLockLists() [][]impl.Need {
	lists := [][]impl.Need{
		needsOf("a@v1.0.0", "a@v1.0.0"), needsOf("a@v1.0.0", "a@v1.1.0"), needsOf("a@v1.1.0", "a@v1.0.0"), needsOf("a@v0.1.0", "a@v1.0.0"),
		needsOf("b@v1.0.0", "a@v1.0.0"), needsOf("a@v1.0.0", "c@v1.0.0", "b@v1.0.0"), needsOf("b@v1.0.0", "a@v1.0.0", "c@v1.0.0"), needsOf("a@v1.0.0", "b@v1.0.0", "a@v1.0.0"),
		needsOf("a@v1.0.0", "b@v1.0.0", "b@v1.0.0"), needsOf("a@v1.0.0", "a@v1.0.0", "b@v1.0.0"), needsOf("a/v2@v2.0.0", "a@v1.0.0"), needsOf("a/v2@v2.0.0", "a/v10@v10.0.0"),
		treeNames(0, 61), make([]impl.Need, 1), make([]impl.Need, 2), make([]impl.Need, 61),
		append(treeNames(0, 59), treeNames(0, 1)...), append(treeNames(0, 59), treeNames(58, 59)...), append(treeNames(1, 60), treeNames(0, 1)...),
	}
	ordinary := needsOf("0@v1.0.0", "b@v1.0.0", "zz@v1.0.0")
	for _, n := range strangeNames() {
		if isNeedsByModel([]impl.Need{n}) {
			continue
		}
		lists = append(lists, []impl.Need{n})
		for at := range len(ordinary) + 1 {
			lists = append(lists, slices.Insert(slices.Clone(ordinary), at, n))
		}
	}
	return lists
}

func TestListsThatAreNotRightHaveNoLock(t *testing.T) {
	lists := wrongLockLists()
	for i, list := range lists {
		for _, h := range []impl.Head{headWith(0, "h"), headWith(200, "\xff"), zeroHead, headWith(201, "h")} {
			wantNoLockOf(t, h, list)
		}
		if isLockListByModel(list) {
			t.Errorf("the list %d is right: %v", i, list)
		}
	}
	if len(lists) < 500 {
		t.Errorf("%d lists alone", len(lists))
	}
}

// A need that holds a whole line of its own is still none.
func TestLinesWithinNeeds(t *testing.T) {
	h := headWith(2, "h")
	v := impl.Version{Major: 1}
	for _, n := range []impl.Need{
		{Path: "a@v1.0.0\nb", V: v}, {Path: "\na", V: v}, {Path: "a\n", V: v}, {Path: "a", V: impl.Version{Major: 1, Pre: "rc.1\nb@v1.0.0"}}, {Path: "a", V: impl.Version{Major: 1, Pre: "rc.1\n"}}, {Path: "a", V: impl.Version{Major: 1, Pre: "\n"}},
	} {
		if got := impl.LockText(h, []impl.Need{n}); got != "" {
			t.Errorf("LockText of %q = %q", nameOf(n), got)
		}
		wantLockLikeModel(t, lockedAs(h, []impl.Need{n}))
	}
}

// Each place of a right list by itself is asked for: what stands there is spoilt, or out of its order.
func TestEachNeedOfALockIsAskedFor(t *testing.T) {
	h := headWith(60, "h")
	for _, n := range []int{1, 2, 3, 7, 59, 60} {
		list := treeNames(0, n)
		for i := range list {
			other := slices.Clone(list)
			for _, spoilt := range []impl.Need{{}, {Path: list[i].Path, V: impl.Version{Major: 2}}, {Path: list[i].Path + "/", V: list[i].V}, {Path: list[i].Path, V: impl.Version{Pre: "01"}}, {Path: list[i].Path, V: impl.Version{Minor: -1}}} {
				other[i] = spoilt
				wantNoLockOf(t, h, other)
			}
			for k := range list {
				other[i] = list[k]
				other[i].V.Patch = 7
				wantLockOf(t, h, other)
			}
			other[i] = list[i]
			other[i].V = impl.Version{Minor: 1000000, Pre: "z"}
			wantLock(t, h, other, lockedAs(h, other))
			wantLock(t, h, without(list, i), lockedAs(h, without(list, i)))
		}
	}
}

func TestAllSmallListsOfALock(t *testing.T) {
	some := append(needsOf("a@v0.0.0", "a@v1.0.0", "a/v2@v2.0.0", "a0@v1.0.0-0", "b@v1.0.0"), impl.Need{}, impl.Need{Path: "a", V: impl.Version{Major: 2}})
	lists := [][]impl.Need{nil}
	for from := 0; len(lists[from]) < 4; from++ {
		for _, n := range some {
			lists = append(lists, append(slices.Clone(lists[from]), n))
		}
	}
	right := 0
	for _, list := range lists {
		wantLockOf(t, headWith(len(list), "h"), list)
		if impl.LockText(headWith(len(list), "h"), list) != "" {
			right++
		}
	}
	if right != 3*2*2*2 { // a as the one or as the other, or not at all, and whichever of the three others
		t.Errorf("%d of %d lists have a lock", right, len(lists))
	}
}

func TestFirstLinesThatAreNone(t *testing.T) {
	d := strings.Repeat("0a", 32)
	rest := "a@v1.0.0\nb@v1.0.0\n"
	for _, line := range []string{
		"", " ", "\x00", "index", "index ", "index  ", "index 1", "index 1 ", "index  1", d, " " + d, "1 " + d, " 1 " + d, "index " + d, "index  " + d, "index1 " + d, "index 1" + d, "index1" + d, "index\t1 " + d, "index 1\t" + d, "index\u00a01 " + d, "index 1\u00a0" + d, "index-1 " + d,
		"index  1 " + d, "index 1  " + d, " index 1 " + d, "index 1 " + d + " ", "\tindex 1 " + d, "index 1 " + d + "\t", "index 1 " + d + "\r", "\rindex 1 " + d, "\ufeffindex 1 " + d, "index 1 " + d + "\x00", "index 1 " + d + ",", "index 1 " + d + " a@v1.0.0", "index 1 " + d + " 1", "index 1 1 " + d, "index index 1 " + d,
		"Index 1 " + d, "INDEX 1 " + d, "indeX 1 " + d, "ndex 1 " + d, "inde 1 " + d, "indexx 1 " + d, "iindex 1 " + d, "indey 1 " + d, "lock 1 " + d, "head 1 " + d, "\xffndex 1 " + d, "ｉndex 1 " + d, "index\x00 1 " + d,
		"index 1 " + d[1:], "index 1 " + d[2:], "index 1 " + d + "0", "index 1 " + d + "0a", "index 1 " + d + d, "index 1 0x" + d[2:], "index 1 0x" + d, "index 1 " + strings.ToUpper(d), "index 1 " + d[:62] + "0A", "index 1 A0" + d[2:], "index 1 " + d[:62] + "0g", "index 1 g0" + d[2:], "index 1 " + d[:62] + "0G",
		"index 1 " + d[:32] + " " + d[32:], "index 1 " + d[:32] + "-" + d[32:], "index 1 " + d[:31] + " " + d[32:], "index 1 " + strings.Repeat("/", 64), "index 1 " + strings.Repeat(":", 64), "index 1 " + strings.Repeat("`", 64), "index 1 " + strings.Repeat("@", 64), "index 1 " + strings.Repeat("\n", 32), "index 1 " + strings.Repeat("r", 32), "index 1 " + d[:62] + "\xff\xff", "index 1 " + d[:61] + "é", "index 1 +" + d[1:], "index 1 -" + d,
		"a@v1.0.0", "index 1 a@v1.0.0", "index@v1.0.0",
	} {
		wantNoLock(t, line)
		wantNoLock(t, line+"\n")
		wantNoLock(t, line+"\n"+rest)
		wantLockLikeModel(t, line+"\n"+rest)
	}
	wantLock(t, impl.Head{Size: 1, Root: strings.Repeat("\x0a", 32)}, needsOf("a@v1.0.0", "b@v1.0.0"), "index 1 "+d+"\n"+rest)
}

func TestSizesThatAreNone(t *testing.T) {
	d := strings.Repeat("0a", 32)
	for _, size := range []string{
		"", " ", "00", "000", "01", "001", "010", "0200", "0199", "0000000000000000001", "+0", "+1", "-0", "-1", "-200", "--1", "201", "202", "210", "255", "256", "257", "300", "999", "1000", "2000", "10000", "65536", "4294967296", "4294967297", "9223372036854775807", "9223372036854775808", "18446744073709551615", "18446744073709551616", "18446744073709551617", "184467440737095516161", strings.Repeat("1", 1000), "1" + strings.Repeat("0", 1000), strings.Repeat("0", 1000),
		"1.", "1.0", ".1", "1e2", "0x1", "0b1", "0o7", "1_0", "1,0", "1a", "a1", "a", "x", "1 0", "1\t", "\t1", "1\x00", "\x001", "1\r", "1\n", "\n1", "/", ":", "0/", "0:", "１", "1\u0660", "\u0661", "²", "1²", "\xb1", "1\xb1", "\xff", "Ⅰ",
	} {
		wantNoLock(t, lockLines(size, d))
		wantNoLock(t, lockLines(size, d, "a@v1.0.0"))
		wantLockLikeModel(t, lockLines(size, d, "a@v1.0.0"))
	}
	for size := range 201 {
		wantReadLock(t, lockLines(size, d), impl.Head{Size: size, Root: strings.Repeat("\x0a", 32)}, nil)
		wantNoLock(t, lockLines("0"+strconv.Itoa(size), d))
		wantNoLock(t, lockLines(strconv.Itoa(size)+" ", d))
		wantNoLock(t, lockLines(" "+strconv.Itoa(size), d))
	}
}

// What is no name is none at whatever place of a lock.
func TestNamesThatAreNoneInLocks(t *testing.T) {
	d := strings.Repeat("0a", 32)
	names := append(slices.Clone(wrongNames), "index 1 "+d, "a@v1.0.0 b@v1.0.0", "a@v1.0.0,b@v1.0.0", "b@v1.0.0\r", "\rb@v1.0.0", "b@v1.0.0\t", "# b@v1.0.0", "b", "b@", "b v1.0.0", "b@latest")
	for _, path := range wrongPaths {
		names = append(names, path+"@v1.0.0")
	}
	for _, text := range wrongVersionTexts {
		names = append(names, "b@"+text)
	}
	for _, pre := range wrongPres {
		names = append(names, "b@v1.0.0-"+pre)
	}
	for _, name := range names {
		text := lockLines(1, d, name)
		for _, more := range []string{text, text + "zz@v1.0.0\n", lockLines(1, d, "0@v1.0.0", name), lockLines(1, d, "0@v1.0.0", name, "zz@v1.0.0")} {
			wantNoLock(t, more)
			wantLockLikeModel(t, more)
		}
		wantLockLikeModel(t, text[:len(text)-1]) // it is one where the name ended with a byte 10, or was nothing
	}
}

// lockTexts: small locks, and a great one.
func lockTexts() []string {
	h := impl.Head{Size: 17, Root: sumOf("root")}
	return []string{
		lockedAs(impl.Head{Root: h.Root}, nil), lockedAs(h, nil), lockedAs(h, needsOf("a@v0.0.0")), lockedAs(h, needsOf("a@v1.2.3-rc.1", "a/v2@v2.0.0", "b@v0.10.0")), lockedAs(headWith(200, "\n"), treeNames(0, 60)),
	}
}

func TestTextsThatAreNoLock(t *testing.T) {
	for _, text := range []string{"", "\n", "\n\n", " ", "\x00", "\xff", "a", "a\n", "a@v1.0.0", "a@v1.0.0\n", "a@v1.0.0\nb@v1.0.0\n", "index\n", "index \n", strings.Repeat("\n", 100), strings.Repeat("a@v1.0.0\n", 100), strings.Repeat("\xff", 1000), strings.Repeat("index ", 20)} {
		wantNoLock(t, text)
	}
	for _, text := range lockTexts() {
		wantLockLikeModel(t, text)
		for _, more := range []string{"\n", " ", "\r", "\x00", "\t", "\r\n", "\n\n", " \n", "x", "x\n", "\ufeff", "a", "z@v1.0.0", "-", "index ", text} {
			wantNoLock(t, text+more)
			wantNoLock(t, more+text)
			if more != "\n" {
				wantNoLock(t, text[:len(text)-1]+more)
			}
		}
		wantNoLock(t, strings.ReplaceAll(text, "\n", "\r\n"))
		wantNoLock(t, strings.ReplaceAll(text, "\n", "\r"))
		wantNoLock(t, strings.ReplaceAll(text, "\n", "\n\n"))
		wantNoLock(t, strings.ReplaceAll(text, "\n", " \n"))
		wantNoLock(t, strings.ReplaceAll(text, "\n", "\n "))
		wantNoLock(t, strings.ReplaceAll(text, "\n", " "))
		wantNoLock(t, strings.ReplaceAll(text, "\n", ""))
		wantNoLock(t, strings.ReplaceAll(text, " ", "  "))
		wantNoLock(t, strings.ReplaceAll(text, " ", ""))
		wantNoLock(t, strings.ReplaceAll(text, " ", "\n"))
		wantNoLock(t, strings.ToUpper(text))
	}
}

// A beginning of a lock is one where it ends with a line of it, and there alone; what is behind the first line by itself is none.
func TestBeginningsOfLocks(t *testing.T) {
	for _, text := range lockTexts() {
		first := strings.Index(text, "\n")
		for n := range text {
			if got := wantLockLikeModel(t, text[:n]); got != (n > first && text[n-1] == '\n') {
				t.Errorf("whether %.300q is a lock: %v", text[:n], got)
			}
			if n > 0 {
				wantNoLock(t, text[n:])
			}
		}
	}
}

// Each byte turned into each other one, left out, or put in once more: it is what the model says.
func TestTurnedLocks(t *testing.T) {
	right := map[string]int{}
	for _, text := range lockTexts()[:4] {
		for at := range len(text) + 1 {
			for c := range 256 {
				if wantLockLikeModel(t, text[:at]+string([]byte{byte(c)})+text[at:]) {
					right["put in"]++
				}
				if at == len(text) {
					continue
				}
				if wantLockLikeModel(t, text[:at]+string([]byte{byte(c)})+text[at+1:]) && byte(c) != text[at] {
					right["turned"]++
				}
			}
			if at < len(text) && wantLockLikeModel(t, text[:at]+text[at+1:]) {
				right["left out"]++
			}
		}
	}
	if right["turned"] < 4*64*15 || right["put in"] == 0 || right["left out"] == 0 { // a hex digit may be any
		t.Errorf("of the turned texts so many are locks: %v", right)
	}
}

// The lines of a lock in each other order, and with some of them twice or not at all.
func TestLinesOfALockOutOfTheirPlace(t *testing.T) {
	lines := []string{"index 3 " + strings.Repeat("0a", 32) + "\n", "a@v1.0.0\n", "a/v2@v2.0.0\n", "b@v0.1.0\n", "\n"}
	locks := 0
	texts := []string{""}
	for from := 0; from < 1+5+25+125+625; from++ {
		for _, line := range lines {
			texts = append(texts, texts[from]+line)
		}
	}
	for _, text := range texts {
		if wantLockLikeModel(t, text) {
			locks++
		}
	}
	if locks != 8 { // whichever of the three names, in their order
		t.Errorf("%d texts are locks", locks)
	}
}

// What is selected can always be written down, whatever world it comes of.
func TestWhatIsSelectedIsLocked(t *testing.T) {
	locks := 0
	mixedWorlds(func(l []impl.Entry, roots []impl.Need) {
		chosen, code := impl.Select(l, roots)
		if code != impl.SelGood {
			return
		}
		h := impl.Head{Size: locks % 201, Root: sumOf(strconv.Itoa(locks))}
		locks++
		wantLock(t, h, chosen, lockedAs(h, chosen))
		if len(chosen) > 1 {
			slices.Reverse(chosen)
			wantNoLockOf(t, h, chosen)
		}
	})
	if locks < 1000 {
		t.Errorf("%d worlds alone have all that is needed", locks)
	}
}

// Two locks are the same where head and needs are, so that no two have one text.
func TestUnlikeLocksHaveUnlikeTexts(t *testing.T) {
	met := map[string]string{}
	for _, h := range lockHeads()[3:] {
		for _, list := range lockLists() {
			text, key := impl.LockText(h, list), fmt.Sprintf("%d %x %q", h.Size, h.Root, namesOf(list))
			if other, ok := met[text]; ok {
				t.Errorf("%.300q is the text of %.300s and of %.300s", text, key, other)
			}
			met[text] = key
		}
	}
}

func TestLocksLeaveTheirListsAlone(t *testing.T) {
	spare := needsOf("z@v1.0.0", "zz@v1.0.0", "a@v1.0.0")
	for _, plain := range append(lockLists(), needsOf("b@v1.0.0", "a@v1.0.0"), treeNames(0, 61), make([]impl.Need, 3)) {
		for _, h := range []impl.Head{headWith(2, "h"), zeroHead} {
			list := sparedNeeds(plain, spare...)
			kept := slices.Clone(list[:cap(list)])
			text := impl.LockText(h, list)
			wantLockOf(t, h, list)
			if !slices.Equal(list[:cap(list)], kept) {
				t.Errorf("%d needs, or the room behind them, were written into", len(plain))
			}
			overwrittenNeeds(list)
			if want := impl.LockText(h, plain); text != want {
				t.Errorf("the text of %d needs is another one: %.300q; want %.300q", len(plain), text, want)
			}
		}
	}
}

// What is read may be written over: no later answer is another one for that.
func TestLocksShareNoList(t *testing.T) {
	for _, text := range lockTexts() {
		h, want, _ := parseLockByModel(text)
		_, first, _ := impl.ParseLock(text)
		_, second, _ := impl.ParseLock(text)
		overwrittenNeeds(first)
		if !slices.Equal(second, want) {
			t.Errorf("what is read hangs on another answer: %v", second)
		}
		wantReadLock(t, text, h, want)
	}
}

func TestLocksShareNoText(t *testing.T) {
	for _, plain := range lockTexts() {
		text := strings.Clone(plain)
		h, list, ok := impl.ParseLock(text)
		if !ok || within(h.Root, text) || within(text, h.Root) {
			t.Errorf("the root of %.300q is a piece of it", text)
		}
		again := impl.LockText(h, list)
		for _, n := range list {
			if within(n.Path, text) || within(n.V.Pre, text) {
				t.Errorf("%q is a piece of the text that it was read of", nameOf(n))
			}
			if within(again, n.Path) || within(n.Path, again) {
				t.Errorf("the lock shares memory with %q", nameOf(n))
			}
		}
		if text != plain || again != plain {
			t.Errorf("%.300q is now %.300q, and is written as %.300q", plain, text, again)
		}
	}
}
