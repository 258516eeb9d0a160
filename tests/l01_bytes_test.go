package tests

import (
	"bytes"
	"math"
	"slices"
	"strings"
	"testing"

	"loop.example/g00233/impl"
)

// numForms: numbers at the borders of their groups, with the bytes that the document asks for.
var numForms = []struct {
	n    int
	form string
}{
	{0, "\x00"},
	{1, "\x01"},
	{127, "\x7f"},
	{128, "\x80\x01"},
	{129, "\x81\x01"},
	{255, "\xff\x01"},
	{256, "\x80\x02"},
	{300, "\xac\x02"},
	{16383, "\xff\x7f"},
	{16384, "\x80\x80\x01"},
	{2097151, "\xff\xff\x7f"},
	{2097152, "\x80\x80\x80\x01"},
	{268435455, "\xff\xff\xff\x7f"},
	{268435456, "\x80\x80\x80\x80\x01"},
	{impl.MaxNum - 1, "\xff\x93\xeb\xdc\x03"},
	{impl.MaxNum, "\x80\x94\xeb\xdc\x03"},
}

// wrongNums: bytes that no number begins with.
var wrongNums = []string{
	"",
	"\x80", "\xff", "\x80\x80", "\xff\xff\xff", "\x80\x94\xeb\xdc", "\x81\x80\x80\x80\x80",
	"\x80\x00", "\x81\x00", "\xff\x00", "\x80\x80\x00", "\xff\xff\x00", "\x81\x80\x80\x80\x00",
	"\x80\x80\x80\x80\x80\x00", "\x81\x80\x80\x80\x80\x80\x80\x80\x80\x00",
	"\x81\x94\xeb\xdc\x03", "\x80\x95\xeb\xdc\x03", "\x80\x80\x80\x80\x04", "\xff\xff\xff\xff\x0f", "\xff\xff\xff\xff\x7f",
	"\x80\x80\x80\x80\x80\x01",
	"\x85\x80\x80\x80\x80\x80\x80\x80\x01",
	"\x85\x80\x80\x80\x80\x80\x80\x80\x80\x01",
	"\x85\x80\x80\x80\x80\x80\x80\x80\x80\x02",
	"\x85\x80\x80\x80\x80\x80\x80\x80\x80\x7e",
	"\x85\x80\x80\x80\x80\x80\x80\x80\x80\x80\x01",
	"\xff\xff\xff\xff\xff\xff\xff\xff\xff\x01",
	"\x85" + strings.Repeat("\x80", 18) + "\x01",
	"\x85" + strings.Repeat("\x80", 36) + "\x10",
	"\x85" + strings.Repeat("\x80", 1000) + "\x01",
	strings.Repeat("\xff", 1000),
}

var someTexts = []string{
	"", "a", "\x00", "\n", "\xff\xfe", "\x80", "v1.2.3", "a/b@v0.0.1", "grüße",
	strings.Repeat("x", 127), strings.Repeat("y", 128), strings.Repeat("\x80", 16383), strings.Repeat("z", 16384),
}

// roomy gives text as a list, with spare room behind it that is filled with spare.
func roomy(text, spare string) []byte {
	all := []byte(text + spare)
	return all[:len(text):len(all)]
}

func wholeOf(b []byte) string { return string(b[:cap(b)]) }

func manyTexts(n int) []string {
	l := make([]string, n)
	for i := range l {
		l[i] = strings.Repeat("t", i%5) + string(rune('a'+i%26))
	}
	return l
}

func wantNum(t *testing.T, b []byte, at, n, next int) {
	t.Helper()
	if gotN, gotNext, ok := impl.GetNum(b, at); !ok || gotN != n || gotNext != next {
		t.Errorf("GetNum(%x, %d) = %d, %d, %v; want %d, %d, true", b, at, gotN, gotNext, ok, n, next)
	}
}

func wantNoNum(t *testing.T, b []byte, at int) {
	t.Helper()
	if n, next, ok := impl.GetNum(b, at); ok || n != 0 || next != 0 {
		t.Errorf("GetNum(%x, %d) = %d, %d, %v; want 0, 0, false", b, at, n, next, ok)
	}
}

func wantText(t *testing.T, b []byte, at int, s string, next int) {
	t.Helper()
	if got, gotNext, ok := impl.GetText(b, at); !ok || got != s || gotNext != next {
		t.Errorf("GetText(%x, %d) = %q, %d, %v; want %q, %d, true", b, at, got, gotNext, ok, s, next)
	}
}

func wantNoText(t *testing.T, b []byte, at int) {
	t.Helper()
	if s, next, ok := impl.GetText(b, at); ok || s != "" || next != 0 {
		t.Errorf("GetText(%x, %d) = %q, %d, %v; want nothing, 0, false", b, at, s, next, ok)
	}
}

func wantTexts(t *testing.T, b []byte, at int, l []string, next int) {
	t.Helper()
	if got, gotNext, ok := impl.GetTexts(b, at); !ok || !slices.Equal(got, l) || gotNext != next {
		t.Errorf("GetTexts(%x, %d) = %q, %d, %v; want %q, %d, true", b, at, got, gotNext, ok, l, next)
	}
}

func wantNoTexts(t *testing.T, b []byte, at int) {
	t.Helper()
	if l, next, ok := impl.GetTexts(b, at); ok || len(l) != 0 || next != 0 {
		t.Errorf("GetTexts(%x, %d) = %q, %d, %v; want nothing, 0, false", b, at, l, next, ok)
	}
}

func TestNumsComeBack(t *testing.T) {
	for _, x := range numForms {
		for _, ahead := range []string{"", "\x09", "\xff\x80", strings.Repeat("q", 200)} {
			b := impl.PutNum([]byte(ahead), x.n)
			if string(b) != ahead+x.form {
				t.Errorf("PutNum(%x, %d) = %x; want %x", ahead, x.n, b, ahead+x.form)
			}
			wantNum(t, b, len(ahead), x.n, len(b))
			for _, behind := range []string{"\x00", "\x01", "\x80", "\xff\xff", "more"} {
				wantNum(t, append(b[:len(b):len(b)], behind...), len(ahead), x.n, len(b))
			}
		}
	}
	if b := impl.PutNum(nil, 5); string(b) != "\x05" {
		t.Errorf("PutNum(nil, 5) = %x", b)
	}
}

func TestEachNumHasOneForm(t *testing.T) {
	seen := 0
	for i := range 1 << 16 {
		b := []byte{byte(i), byte(i >> 8)}
		n, next, ok := impl.GetNum(b, 0)
		if !ok {
			if b[0] < 128 || b[1] != 0 && b[1] < 128 {
				t.Fatalf("%x is refused", b)
			}
			continue
		}
		seen++
		if !bytes.Equal(impl.PutNum(nil, n), b[:next]) {
			t.Fatalf("%x gives %d, whose bytes are others", b, n)
		}
	}
	if seen != 128*256+128*127 {
		t.Errorf("%d pairs of bytes begin with a number", seen)
	}
	for n := 0; n <= impl.MaxNum; n += 99991 {
		b := impl.PutNum([]byte{7}, n)
		wantNum(t, b, 1, n, len(b))
	}
}

func TestNumsOutOfBounds(t *testing.T) {
	least, most := numForms[0].form, numForms[len(numForms)-1].form
	for _, n := range []int{-1, -127, -128, -impl.MaxNum, math.MinInt32, math.MinInt} {
		if b := impl.PutNum([]byte("p"), n); string(b) != "p"+least {
			t.Errorf("PutNum of %d = %x", n, b)
		}
	}
	for _, n := range []int{impl.MaxNum + 1, 1 << 30, 1 << 32, 1 << 35, 1<<32 + 5, math.MaxInt} {
		if b := impl.PutNum([]byte("p"), n); string(b) != "p"+most {
			t.Errorf("PutNum of %d = %x", n, b)
		}
	}
}

func TestWrongNums(t *testing.T) {
	for _, s := range wrongNums {
		wantNoNum(t, []byte(s), 0)
		wantNoNum(t, []byte("ab"+s), 2)
	}
	for _, x := range numForms {
		for cut := range len(x.form) {
			wantNoNum(t, []byte(x.form[:cut]), 0)
			wantNoNum(t, roomy(x.form[:cut], x.form[cut:]), 0)
		}
	}
}

func TestPlacesThatAreNot(t *testing.T) {
	b := impl.PutTexts([]byte{1, 2, 3}, []string{"\x01x", "\x00"})
	for _, b := range [][]byte{b, roomy(string(b), "\x01\x01z\x01\x01z"), nil, {}} {
		for _, at := range []int{-1, -2, -len(b), math.MinInt, len(b), len(b) + 1, len(b) + 3, 1 << 32, math.MaxInt} {
			if at >= 0 && at < len(b) {
				continue
			}
			wantNoNum(t, b, at)
			wantNoText(t, b, at)
			wantNoTexts(t, b, at)
		}
	}
}

func TestTextsComeBackOneByOne(t *testing.T) {
	for _, s := range someTexts {
		for _, ahead := range []string{"", "\x80", "ahead"} {
			form := ahead + string(impl.PutNum(nil, len(s))) + s
			b := impl.PutText([]byte(ahead), s)
			if string(b) != form {
				t.Errorf("PutText(%x, %q) = %x", ahead, s, b)
			}
			wantText(t, b, len(ahead), s, len(b))
			wantText(t, append(b[:len(b):len(b)], "behind"...), len(ahead), s, len(b))
		}
	}
	if b := impl.PutText(nil, ""); string(b) != "\x00" {
		t.Errorf("PutText(nil, nothing) = %x", b)
	}
}

func TestWrongTexts(t *testing.T) {
	for _, s := range wrongNums {
		wantNoText(t, []byte(s), 0)
		wantNoText(t, []byte("ab"+s), 2)
	}
	for _, s := range []string{"\x01", "\x02a", "\x7fabc", "\x80\x01abc", "\x81\x00a", "\x80\x94\xeb\xdc\x03abc", "\x81\x94\xeb\xdc\x03abc"} {
		wantNoText(t, []byte(s), 0)
		wantNoText(t, []byte("\x01"+s), 1)
	}
	for _, s := range []string{"a", "abc", strings.Repeat("x", 300)} {
		form := string(impl.PutText([]byte("p"), s))
		for cut := 1; cut < len(form); cut++ {
			wantNoText(t, []byte(form[:cut]), 1)
			wantNoText(t, roomy(form[:cut], form[cut:]), 1)
		}
	}
}

func TestListsOfTextsComeBack(t *testing.T) {
	lists := [][]string{
		nil, {}, {""}, {"", ""}, {"a", "", "bc"}, {"same", "same"}, someTexts,
		manyTexts(127), manyTexts(128), manyTexts(199), manyTexts(200), make([]string, 200),
	}
	for _, l := range lists {
		for _, ahead := range []string{"", "\x80", "ahead"} {
			form := ahead + string(impl.PutNum(nil, len(l)))
			for _, s := range l {
				form += string(impl.PutText(nil, s))
			}
			b := impl.PutTexts([]byte(ahead), l)
			if string(b) != form {
				t.Errorf("PutTexts(%x, %q) = %x", ahead, l, b)
			}
			wantTexts(t, b, len(ahead), l, len(b))
			wantTexts(t, append(b[:len(b):len(b)], "\x01behind"...), len(ahead), l, len(b))
		}
	}
	if b := impl.PutTexts(nil, nil); string(b) != "\x00" {
		t.Errorf("PutTexts(nil, nil) = %x", b)
	}
}

func TestTooManyTextsDoNotComeBack(t *testing.T) {
	for _, n := range []int{201, 202, 256, 456, 1000} {
		l := manyTexts(n)
		form := string(impl.PutNum([]byte("p"), n))
		for _, s := range l {
			form += string(impl.PutText(nil, s))
		}
		b := impl.PutTexts([]byte("p"), l)
		if string(b) != form {
			t.Errorf("PutTexts of %d = %x", n, b)
		}
		wantNoTexts(t, b, 1)
	}
	wantNoTexts(t, append(impl.PutNum(nil, impl.MaxNum), make([]byte, 1000)...), 0)
}

func TestWrongLists(t *testing.T) {
	for _, s := range wrongNums {
		wantNoTexts(t, []byte(s), 0)
		wantNoTexts(t, []byte("ab"+s), 2)
		wantNoTexts(t, []byte("\x01"+s), 0)
		wantNoTexts(t, []byte("\x02\x01a"+s), 0)
	}
	wantNoTexts(t, []byte("\x82\x00\x01a\x01b"), 0)
	wantNoTexts(t, []byte("\x02\x81\x00a\x01b"), 0)
	wantNoTexts(t, []byte("\x02\x01a\x02b"), 0)
	for _, l := range [][]string{{""}, {"a", "", "bc"}, {"", "", ""}, manyTexts(200)} {
		form := string(impl.PutTexts([]byte("p"), l))
		for cut := 1; cut < len(form); cut++ {
			wantNoTexts(t, []byte(form[:cut]), 1)
			wantNoTexts(t, roomy(form[:cut], form[cut:]), 1)
		}
	}
}

func TestMixedBytesComeBack(t *testing.T) {
	var b []byte
	for _, x := range numForms {
		b = impl.PutText(impl.PutNum(b, x.n), x.form)
		b = impl.PutTexts(b, []string{x.form, "", "e"})
	}
	at := 0
	for _, x := range numForms {
		wantNum(t, b, at, x.n, at+len(x.form))
		at += len(x.form)
		wantText(t, b, at, x.form, at+1+len(x.form))
		at += 1 + len(x.form)
		wantTexts(t, b, at, []string{x.form, "", "e"}, at+5+len(x.form))
		at += 5 + len(x.form)
	}
	if at != len(b) {
		t.Errorf("%d of %d bytes came back", at, len(b))
	}
}

func TestWhatBytesGiveTheyGiveAgain(t *testing.T) {
	state := uint32(1)
	for range 20000 {
		b := make([]byte, 0, 12)
		for range 12 {
			state = state*1664525 + 1013904223
			b = append(b, byte(state>>24)&0x83) // small groups, so that whole forms are met often
		}
		if n, next, ok := impl.GetNum(b, 0); ok && !bytes.Equal(impl.PutNum(nil, n), b[:next]) {
			t.Fatalf("number of %x: %d, %d", b, n, next)
		}
		if s, next, ok := impl.GetText(b, 0); ok && !bytes.Equal(impl.PutText(nil, s), b[:next]) {
			t.Fatalf("text of %x: %q, %d", b, s, next)
		}
		if l, next, ok := impl.GetTexts(b, 0); ok && !bytes.Equal(impl.PutTexts(nil, l), b[:next]) {
			t.Fatalf("texts of %x: %q, %d", b, l, next)
		}
	}
}

func TestPutLeavesArgumentsAlone(t *testing.T) {
	puts := map[string]func(b []byte, more byte) []byte{
		"PutNum":   func(b []byte, more byte) []byte { return impl.PutNum(b, 1000+int(more)) },
		"PutText":  func(b []byte, more byte) []byte { return impl.PutText(b, strings.Repeat("s", int(more))) },
		"PutTexts": func(b []byte, more byte) []byte { return impl.PutTexts(b, manyTexts(int(more))) },
	}
	spare := strings.Repeat("#", 500)
	for name, put := range puts {
		for _, text := range []string{"", "abc", strings.Repeat("k", 1000)} {
			b := roomy(text, spare)
			before := wholeOf(b)
			first := put(b, 0)
			kept := string(first)
			second := put(b, 9)
			if wholeOf(b) != before {
				t.Errorf("%s wrote into its argument or behind it", name)
			}
			if string(first) != kept {
				t.Errorf("%s: one answer was written over by the next", name)
			}
			keptSecond := string(second)
			for i := range first[:cap(first)] {
				first[:cap(first)][i] ^= 0xff
			}
			if wholeOf(b) != before || string(second) != keptSecond {
				t.Errorf("%s: its answer shares memory", name)
			}
			for i := range b[:cap(b)] {
				b[:cap(b)][i] = '!'
			}
			if string(second) != keptSecond {
				t.Errorf("%s: its answer hangs on its argument", name)
			}
		}
	}
}

func TestPutTextsLeavesItsListAlone(t *testing.T) {
	all := []string{"a", "b", "spare", "room"}
	b := impl.PutTexts(nil, all[:2])
	if string(b) != "\x02\x01a\x01b" || !slices.Equal(all, []string{"a", "b", "spare", "room"}) {
		t.Errorf("%x of %q", b, all)
	}
}

func TestGetLeavesArgumentsAlone(t *testing.T) {
	spare := strings.Repeat("#", 50)
	form := string(impl.PutTexts(nil, []string{"abc", "", "de"}))
	b := roomy(form, spare)
	impl.GetNum(b, 0)
	s, _, _ := impl.GetText(b, 1)
	l, _, _ := impl.GetTexts(b, 0)
	again, _, _ := impl.GetTexts(b, 0)
	if wholeOf(b) != form+spare {
		t.Errorf("bytes that were read are now %q", wholeOf(b))
	}
	for i := range b {
		b[i] = '!'
	}
	l[0] = "other"
	if s != "abc" || !slices.Equal(again, []string{"abc", "", "de"}) {
		t.Errorf("what was read hangs on its bytes: %q, %q", s, again)
	}
}
