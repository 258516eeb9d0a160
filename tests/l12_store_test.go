package tests

import (
	"bytes"
	"encoding/binary"
	"io"
	"math"
	"slices"
	"strconv"
	"strings"
	"testing"

	"loop.example/g00233/impl"
)

// notBytesPlaces: what is no place in any bytes, and what is no number of them.
var notBytesPlaces = []int{-1, -2, -60000, math.MinInt, math.MinInt + 1, 60002, 1 << 32, math.MaxInt - 4, math.MaxInt - 1, math.MaxInt}

// formed puts numbers and texts as they are, so that it makes what is wrong, too.
func formed(parts ...any) string {
	var b []byte
	for _, p := range parts {
		switch x := p.(type) {
		case int:
			b = binary.AppendUvarint(b, uint64(x))
		case string:
			b = append(binary.AppendUvarint(b, uint64(len(x))), x...)
		case []string:
			b = binary.AppendUvarint(b, uint64(len(x)))
			for _, s := range x {
				b = append(binary.AppendUvarint(b, uint64(len(s))), s...)
			}
		case []byte:
			b = append(b, x...)
		}
	}
	return string(b)
}

func bodyByModel(h impl.Head, texts []string) string { return formed(h.Size, h.Root, texts) }

// sealed gives the commit of a body, whatever that is: its sum is right.
func sealed(body string) []byte { return []byte(formed(body) + sumOf(body)[:4]) }

func commitByModel(h impl.Head, texts []string) []byte { return sealed(bodyByModel(h, texts)) }

func isCommitByModel(h impl.Head, texts []string) bool {
	return h.Size >= 0 && h.Size <= 200 && len(h.Root) == 32 && len(texts) >= 1 && len(texts) <= 200
}

// textByModel reads any number of bytes that is there.
func textByModel(r *strings.Reader) (string, bool) {
	n, err := binary.ReadUvarint(r)
	if err != nil || n > uint64(r.Len()) {
		return "", false
	}
	s := make([]byte, n)
	_, err = io.ReadFull(r, s)
	return string(s), err == nil
}

// unsealed reads forms that are not the shortest, too, and goes on behind the texts: who asks puts it again.
func unsealed(b []byte) (impl.Head, []string, bool) {
	body, ok := textByModel(strings.NewReader(string(b)))
	r := strings.NewReader(body)
	size, err := binary.ReadUvarint(r)
	root, whole := textByModel(r)
	count, err2 := binary.ReadUvarint(r)
	if !ok || err != nil || !whole || err2 != nil || count > 200 {
		return zeroHead, nil, false
	}
	var texts []string
	for range count {
		s, ok := textByModel(r)
		if !ok {
			return zeroHead, nil, false
		}
		texts = append(texts, s)
	}
	return impl.Head{Size: int(size), Root: root}, texts, true
}

func getCommitByModel(b []byte, at int) (impl.Head, []string, int, bool) {
	if at < 0 || at > len(b) {
		return zeroHead, nil, at, false
	}
	h, texts, ok := unsealed(b[at:])
	if !ok || !isCommitByModel(h, texts) || !bytes.HasPrefix(b[at:], commitByModel(h, texts)) {
		return zeroHead, nil, at, false
	}
	return h, texts, at + len(commitByModel(h, texts)), true
}

func isStoreByModel(s impl.Store) bool {
	if !isLogByModel(s.L) || len(s.Bytes) > 60000 || s.Sure < 0 || s.Sure > len(s.Bytes) {
		return false
	}
	var texts []string
	for at := 0; at < len(s.Bytes); {
		h, more, next, ok := getCommitByModel(s.Bytes, at)
		texts = append(texts, more...)
		if !ok || h != headByModel(texts) {
			return false
		}
		at = next
	}
	return slices.Equal(texts, s.L.Texts)
}

func takeByModel(s impl.Store, table []impl.Head, h impl.Head, texts []string) (impl.Store, int) {
	var commit []byte
	if isCommitByModel(h, texts) {
		commit = commitByModel(h, texts)
	}
	if !isStoreByModel(s) || len(s.Bytes)+len(commit) > 60000 {
		return s, impl.LogForm
	}
	l, code := extendByModel(s.L, table, h, texts)
	if code != impl.LogGood {
		return s, code
	}
	return impl.Store{L: l, Bytes: slices.Concat(s.Bytes, commit), Sure: s.Sure}, code
}

func openByModel(table []impl.Head, b []byte) (impl.Store, int) {
	b = b[:min(len(b), 60000)]
	s, count := impl.Store{L: madeLog(nil)}, 0
	for {
		h, texts, _, ok := getCommitByModel(b, len(s.Bytes))
		longer, code := takeByModel(s, table, h, texts)
		if !ok || code != impl.LogGood {
			s.Sure = len(s.Bytes)
			return s, count
		}
		s, count = longer, count+1
	}
}

func fallByModel(s impl.Store, keep int) []byte {
	left := []byte{}
	for i, c := range s.Bytes {
		if i < s.Sure || i-max(s.Sure, 0) < keep {
			left = append(left, c)
		}
	}
	return left
}

// storeOf has a commit up to each of these ends, nothing of it sure; with all that was signed for it.
func storeOf(texts []string, ends ...int) (impl.Store, []impl.Head) {
	var s impl.Store
	var table []impl.Head
	from := 0
	for _, to := range ends {
		h := headByModel(texts[:to])
		s.Bytes = append(s.Bytes, commitByModel(h, texts[from:to])...)
		table = append(table, h)
		from = to
	}
	s.L = madeLog(slices.Clone(texts[:from]))
	return s, table
}

// endsOf tells where the commits of b end.
func endsOf(b []byte) []int {
	var ends []int
	for at := 0; at < len(b); {
		_, _, next, ok := getCommitByModel(b, at)
		if !ok {
			break
		}
		ends = append(ends, next)
		at = next
	}
	return ends
}

// fillerTo is the text that makes a commit of so many bytes in all, with a head of this Size.
func fillerTo(t *testing.T, size, total int) string {
	t.Helper()
	for n := max(total-60, 0); n < total; n++ {
		if s := strings.Repeat("f", n); len(commitByModel(headWith(size, "a"), []string{s})) == total {
			return s
		}
	}
	t.Fatalf("no text makes a commit of %d bytes", total)
	return ""
}

func withSure(s impl.Store, sure int) impl.Store {
	s.Sure = sure
	return s
}

func cloneStore(s impl.Store) impl.Store {
	return impl.Store{L: cloneLog(s.L), Bytes: bytes.Clone(s.Bytes), Sure: s.Sure}
}

func sameStore(a, b impl.Store) bool {
	return sameLog(a.L, b.L) && bytes.Equal(a.Bytes, b.Bytes) && a.Sure == b.Sure
}

func wantCommit(t *testing.T, b []byte, at int, h impl.Head, texts []string, next int) {
	t.Helper()
	gotH, gotTexts, gotNext, ok := impl.GetCommit(b, at)
	if !ok || gotH != h || !slices.Equal(gotTexts, texts) || gotNext != next {
		t.Errorf("GetCommit of %d bytes at %d = %d, %x, %d texts, %d, %v; want %d, %x, %d texts, %d, true",
			len(b), at, gotH.Size, gotH.Root, len(gotTexts), gotNext, ok, h.Size, h.Root, len(texts), next)
	}
}

func wantNoCommit(t *testing.T, b []byte, at int) {
	t.Helper()
	h, texts, next, ok := impl.GetCommit(b, at)
	if ok || h != zeroHead || len(texts) != 0 || next != at {
		t.Errorf("GetCommit of %.100x at %d = %d, %x, %d texts, %d, %v; want the zero one, nothing, at and false",
			b, at, h.Size, h.Root, len(texts), next, ok)
	}
}

func wantCommitLikeModel(t *testing.T, b []byte, at int) {
	t.Helper()
	h, texts, next, ok := getCommitByModel(b, at)
	if ok {
		wantCommit(t, b, at, h, texts, next)
		return
	}
	wantNoCommit(t, b, at)
}

func wantPut(t *testing.T, h impl.Head, texts []string, want []byte) {
	t.Helper()
	if got := impl.PutCommit(h, texts); !bytes.Equal(got, want) {
		t.Errorf("PutCommit of %d, %x and %d texts = %.100x; want %.100x", h.Size, h.Root, len(texts), got, want)
	}
}

func wantStore(t *testing.T, what string, got, want impl.Store) {
	t.Helper()
	if !sameStore(got, want) {
		t.Errorf("%s: %d texts, the head %d, %x, %d bytes, %d sure; want %d, %d, %x, %d, %d", what,
			len(got.L.Texts), got.L.H.Size, got.L.H.Root, len(got.Bytes), got.Sure,
			len(want.L.Texts), want.L.H.Size, want.L.H.Root, len(want.Bytes), want.Sure)
	}
}

func wantStoreOk(t *testing.T, what string, s impl.Store, want bool) {
	t.Helper()
	if got := impl.StoreOk(s); got != want {
		t.Errorf("%s: StoreOk of %d texts, %d bytes, %d sure: %v", what, len(s.L.Texts), len(s.Bytes), s.Sure, got)
	}
}

func wantTake(t *testing.T, what string, s impl.Store, table []impl.Head, h impl.Head, texts []string, want impl.Store, code int) impl.Store {
	t.Helper()
	got, gotCode := impl.Commit(s, table, h, texts)
	if gotCode != code {
		t.Errorf("%s: Commit gives the code %d; want %d", what, gotCode, code)
	}
	wantStore(t, what+": Commit", got, want)
	return got
}

func wantTakeLikeModel(t *testing.T, what string, s impl.Store, table []impl.Head, h impl.Head, texts []string) (impl.Store, int) {
	t.Helper()
	want, code := takeByModel(s, table, h, texts)
	return wantTake(t, what, s, table, h, texts, want, code), code
}

func wantOpen(t *testing.T, what string, table []impl.Head, b []byte, want impl.Store, count int) {
	t.Helper()
	got, gotCount := impl.OpenStore(table, b)
	if gotCount != count {
		t.Errorf("%s: OpenStore of %d bytes gives %d commits; want %d", what, len(b), gotCount, count)
	}
	wantStore(t, what+": OpenStore", got, want)
	wantStoreOk(t, what+": OpenStore", got, true)
}

func wantOpenLikeModel(t *testing.T, what string, table []impl.Head, b []byte) {
	t.Helper()
	want, count := openByModel(table, b)
	wantOpen(t, what, table, b, want, count)
}

func TestCommitsByHand(t *testing.T) {
	root := strings.Repeat("r", 32)
	for _, c := range []struct {
		size  int
		texts []string
		body  string
	}{
		{1, []string{"a"}, "\x01\x20" + root + "\x01\x01a"},
		{0, []string{""}, "\x00\x20" + root + "\x01\x00"},
		{7, []string{"a", "", "bc"}, "\x07\x20" + root + "\x03\x01a\x00\x02bc"},
		{127, []string{"\x00"}, "\x7f\x20" + root + "\x01\x01\x00"},
		{128, []string{"\xff"}, "\x80\x01\x20" + root + "\x01\x01\xff"},
		{200, []string{strings.Repeat("x", 86)}, "\xc8\x01\x20" + root + "\x01\x56" + strings.Repeat("x", 86)},
	} {
		want := string(rune(len(c.body))) + c.body + sumOf(c.body)[:4]
		wantPut(t, impl.Head{Size: c.size, Root: root}, c.texts, []byte(want))
		wantCommit(t, []byte(want), 0, impl.Head{Size: c.size, Root: root}, c.texts, len(want))
	}
	body := "\xc8\x01\x20" + root + "\xc8\x01" + strings.Repeat("\x01t", 200)
	want := "\xb5\x03" + body + sumOf(body)[:4]
	wantPut(t, impl.Head{Size: 200, Root: root}, strings.Split(strings.Repeat("t", 200), ""), []byte(want))
}

// commitTexts: lists of 1 to 200 texts, of all lengths that have another form.
func commitTexts() [][]string {
	lists := [][]string{{""}, {"a"}, {"", ""}, {"\x00\x01\x02\x03"}, someTexts, {strings.Repeat("x", 70000)}}
	for _, n := range []int{1, 2, 3, 127, 128, 129, 199, 200} {
		lists = append(lists, edgeLists(n)...)
	}
	for n := 80; n < 100; n++ { // the body comes to 128 bytes in here
		lists = append(lists, []string{strings.Repeat("y", n)})
	}
	return lists
}

func TestCommitsComeBackOfTheirBytes(t *testing.T) {
	for _, texts := range commitTexts() {
		for _, h := range []impl.Head{impl.HeadOf(texts), headWith(0, "a"), headWith(1, "\x00"), headWith(128, "\xff"), headWith(200, "z")} {
			want := commitByModel(h, texts)
			wantPut(t, h, texts, want)
			wantCommit(t, impl.PutCommit(h, texts), 0, h, texts, len(want))
			for _, ahead := range []string{"", "x", "\x00\x00", string(want), string(want[:20])} {
				for _, behind := range []string{"", "x", "\x80", string(want), strings.Repeat("\x00", 40)} {
					b := []byte(ahead + string(want) + behind)
					wantCommit(t, b, len(ahead), h, texts, len(ahead)+len(want))
				}
			}
		}
	}
}

func TestCommitsOneBehindTheOther(t *testing.T) {
	var b []byte
	lists := commitTexts()
	for i, texts := range lists {
		b = append(b, impl.PutCommit(headWith(i%201, "a"), texts)...)
	}
	at := 0
	for i, texts := range lists {
		_, _, next, ok := impl.GetCommit(b, at)
		if !ok {
			t.Fatalf("commit %d is not there", i)
		}
		wantCommit(t, b, at, headWith(i%201, "a"), texts, next)
		at = next
	}
	if at != len(b) {
		t.Errorf("the commits end at %d of %d", at, len(b))
	}
	wantNoCommit(t, b, at)
}

// wrongHeads: of each limit that a head has, the first that is past it.
func wrongHeads() []impl.Head {
	root := strings.Repeat("r", 32)
	heads := []impl.Head{zeroHead, {Size: 1}, {Size: 1, Root: root[:31]}, {Size: 1, Root: root + "r"}, {Size: 0, Root: root[:31]}, {Size: 200, Root: root + root}}
	for _, size := range notHeadSizes {
		heads = append(heads, impl.Head{Size: size, Root: root})
	}
	return heads
}

func TestWhatIsNotPut(t *testing.T) {
	for _, h := range wrongHeads() {
		for _, n := range []int{0, 1, 2, 200, 201} {
			wantPut(t, h, manyTexts(n), nil)
		}
	}
	for _, h := range []impl.Head{headWith(0, "a"), headWith(1, "a"), headWith(200, "a"), impl.HeadOf(nil)} {
		wantPut(t, h, nil, nil)
		wantPut(t, h, []string{}, nil)
		for _, n := range []int{201, 202, 255, 256, 257, 400, 1000} {
			wantPut(t, h, manyTexts(n), nil)
		}
		for _, n := range []int{1, 199, 200} {
			wantPut(t, h, manyTexts(n), commitByModel(h, manyTexts(n)))
		}
	}
}

// A right sum makes no commit of what would not be put.
func TestWhatIsNotPutIsNotGot(t *testing.T) {
	right := headWith(3, "a")
	wantCommit(t, commitByModel(right, []string{"a"}), 0, right, []string{"a"}, 42)
	for _, h := range wrongHeads() {
		for _, n := range []int{0, 1, 2, 200, 201} {
			wantNoCommit(t, commitByModel(h, manyTexts(n)), 0)
		}
	}
	for _, n := range []int{0, 201, 202, 256, 400} {
		wantNoCommit(t, commitByModel(right, manyTexts(n)), 0)
	}
	for _, n := range []int{1, 200} {
		wantCommit(t, commitByModel(right, manyTexts(n)), 0, right, manyTexts(n), len(commitByModel(right, manyTexts(n))))
	}
	for _, size := range []int{impl.MaxNum, impl.MaxNum + 1, 1<<35 + 3, 1<<62 + 3} {
		wantNoCommit(t, commitByModel(impl.Head{Size: size, Root: right.Root}, []string{"a"}), 0)
	}
}

func TestPlacesWithoutACommit(t *testing.T) {
	h, texts := headWith(2, "a"), []string{"ab", "c"}
	commit := commitByModel(h, texts)
	for _, b := range [][]byte{nil, {}, {0}, commit, slices.Concat(commit, commit), slices.Concat([]byte("xyz"), commit, []byte("xyz"))} {
		for at := -2; at <= len(b)+2; at++ {
			wantCommitLikeModel(t, b, at)
		}
		for _, at := range append(notBytesPlaces, len(b), len(b)+1) {
			wantNoCommit(t, b, at)
		}
	}
}

func TestTurnedCommits(t *testing.T) {
	for _, c := range []struct {
		h     impl.Head
		texts []string
	}{{headWith(1, "a"), []string{""}}, {impl.HeadOf([]string{"a", "bc"}), []string{"a", "bc"}}, {headWith(200, "\x00"), manyTexts(30)}} {
		commit := commitByModel(c.h, c.texts)
		for i := range commit {
			for turn := 1; turn < 256; turn += 1 + len(commit)/50*16 {
				turned := bytes.Clone(commit)
				turned[i] ^= byte(turn)
				wantNoCommit(t, turned, 0)
				wantNoCommit(t, append(turned, commit...), 0)
			}
			wantNoCommit(t, commit[:i], 0)
			wantNoCommit(t, slices.Delete(bytes.Clone(commit), i, i+1), 0)
		}
		wantCommit(t, commit, 0, c.h, c.texts, len(commit))
	}
}

// How long the body is, is one more or less than it was; the sum is that of the body, or of so much of it.
func TestBodiesOfAnotherLength(t *testing.T) {
	for _, texts := range [][]string{{""}, {"a"}, {"a", "b"}, {strings.Repeat("x", 88)}, {strings.Repeat("x", 89)}, {strings.Repeat("x", 90)}} {
		body := bodyByModel(headWith(1, "a"), texts)
		sum := sumOf(body)[:4]
		for _, n := range []int{len(body) - 1, len(body) + 1, len(body) + 4, 0, 1, 127, 128, 1000, impl.MaxNum, impl.MaxNum + 1, math.MaxInt} {
			if n != len(body) {
				wantNoCommit(t, []byte(formed(n)+body+sum), 0)
				wantNoCommit(t, []byte(formed(n)+body+sum+body), 0)
				wantNoCommit(t, []byte(formed(n)+body+sum+strings.Repeat("\x00", 2000)), 0)
			}
		}
		wantNoCommit(t, sealed(body[:len(body)-1]), 0)
		for _, more := range []string{"\x00", "a", "\x01a", sum, body} {
			wantNoCommit(t, sealed(body+more), 0)
		}
		for n := range body {
			wantNoCommit(t, sealed(body[:n]), 0)
			wantNoCommit(t, append(sealed(body[:n]), body[n:]...), 0) // the rest is there, but behind the sum
		}
		wantCommit(t, sealed(body), 0, headWith(1, "a"), texts, len(body)+len(formed(len(body)))+4)
	}
	wantNoCommit(t, sealed(""), 0)
	wantNoCommit(t, sealed("\x00"), 0)
}

// longer is the form of n with a needless group behind it.
func longer(n int) []byte {
	b := []byte(formed(n))
	b[len(b)-1] += 128
	return append(b, 0)
}

func TestNumbersOfACommitInTheirShortestForm(t *testing.T) {
	root := strings.Repeat("r", 32)
	wantCommit(t, sealed(formed(1, 32, []byte(root), 1, 1, []byte("a"))), 0, impl.Head{Size: 1, Root: root}, []string{"a"}, 42)
	for _, body := range []string{
		formed(longer(1), 32, []byte(root), 1, 1, []byte("a")),
		formed(1, longer(32), []byte(root), 1, 1, []byte("a")),
		formed(1, 32, []byte(root), longer(1), 1, []byte("a")),
		formed(1, 32, []byte(root), 1, longer(1), []byte("a")),
		formed(longer(200), 32, []byte(root), 1, 1, []byte("a")),
		formed(longer(0), 32, []byte(root), 1, 1, []byte("a")),
		formed(1, 32, []byte(root), 1, longer(0)),
		formed(1, 32, []byte(root), 2, 1, []byte("a")),
		formed(1, 32, []byte(root), 1, 2, []byte("a")),
		formed(1, 33, []byte(root), 1, 1, []byte("a")),
		formed(1, 31, []byte(root), 1, 1, []byte("a")),
		formed(1, impl.MaxNum, []byte(root), 1, 1, []byte("a")),
	} {
		wantNoCommit(t, sealed(body), 0)
	}
	for _, texts := range [][]string{{"a"}, {strings.Repeat("x", 100)}} {
		body := bodyByModel(headWith(1, "a"), texts)
		wantNoCommit(t, append(longer(len(body)), body+sumOf(body)[:4]...), 0)
	}
}

func TestANewStore(t *testing.T) {
	s := impl.StoreNew()
	wantStore(t, "StoreNew", s, impl.Store{L: impl.Log{H: impl.Head{Size: 0, Root: sumOf("")}}})
	wantStoreOk(t, "StoreNew", s, true)
	wantStoreOk(t, "an empty list of each", impl.Store{L: impl.Log{Texts: []string{}, H: impl.HeadOf(nil)}, Bytes: []byte{}}, true)
	wantStoreOk(t, "the zero store", impl.Store{}, false)
}

func TestStoresTakeCommits(t *testing.T) {
	for _, texts := range edgeLists(impl.MaxLeaves) {
		var table []impl.Head
		for n := range len(texts) + 1 {
			table = append(table, headByModel(texts[:n]))
		}
		for _, step := range []int{1, 3, 64, 200} {
			s, sure := impl.StoreNew(), 0
			for from, i := 0, 0; from < len(texts); from, i = len(s.L.Texts), i+1 {
				to := min(from+step, len(texts))
				want := impl.Store{L: madeLog(texts[:to]), Bytes: append(bytes.Clone(s.Bytes), commitByModel(table[to], texts[from:to])...), Sure: sure}
				s = wantTake(t, "more", s, table, table[to], texts[from:to], want, impl.LogGood)
				if len(s.L.Texts) != to {
					t.Fatalf("texts %d to %d are not taken", from, to)
				}
				if i%3 == 2 { // sure is what was there then, not what comes behind it
					s = impl.MakeSure(s)
					sure = len(want.Bytes)
					want.Sure = sure
					wantStore(t, "MakeSure", s, want)
				}
			}
			wantStoreOk(t, "at the end", s, true)
		}
	}
}

func TestWhatIsSure(t *testing.T) {
	texts := []string{"a", "b", "c", "d"}
	s, table := storeOf(texts, 1, 3, 4)
	ends := endsOf(s.Bytes)
	for _, ahead := range []int{0, 1, 2, 3} {
		got := impl.StoreNew()
		want := 0
		for i, h := range table {
			if i == ahead {
				got = impl.MakeSure(got)
				want = len(got.Bytes)
			}
			got, _ = impl.Commit(got, table, h, texts[len(got.L.Texts):h.Size])
		}
		if ahead == 3 {
			got = impl.MakeSure(got)
			want = ends[2]
		}
		wantStore(t, "MakeSure", got, withSure(s, want))
		wantStore(t, "MakeSure of all", impl.MakeSure(got), withSure(s, ends[2]))
		wantStore(t, "MakeSure twice", impl.MakeSure(impl.MakeSure(got)), withSure(s, ends[2]))
	}
	wantStore(t, "MakeSure of none", impl.MakeSure(impl.StoreNew()), impl.StoreNew())
	for sure := range len(s.Bytes) + 1 { // Sure may be within a commit
		wantStoreOk(t, "any Sure", withSure(s, sure), true)
		wantStore(t, "MakeSure", impl.MakeSure(withSure(s, sure)), withSure(s, ends[2]))
	}
}

func TestSureThatIsNone(t *testing.T) {
	texts := []string{"a", "b", "c"}
	for _, ends := range [][]int{nil, {1}, {1, 2}} {
		s, _ := storeOf(texts, ends...)
		h := headByModel(texts[:len(ends)+1])
		wantStoreOk(t, "Sure 0", withSure(s, 0), true)
		wantStoreOk(t, "all is sure", withSure(s, len(s.Bytes)), true)
		for _, sure := range append(notBytesPlaces, len(s.Bytes)+1) {
			w := withSure(s, sure)
			wantStoreOk(t, "no Sure", w, false)
			wantStore(t, "MakeSure", impl.MakeSure(w), w)
			wantTake(t, "no Sure", w, []impl.Head{h}, h, texts[len(ends):len(ends)+1], w, impl.LogForm)
		}
	}
}

func TestWhatACrashLeaves(t *testing.T) {
	s, _ := storeOf([]string{"a", "", "ccc", "d"}, 1, 2, 4)
	n := len(s.Bytes)
	for sure := 0; sure <= n; sure++ {
		for _, keep := range []int{0, 1, 2, 41, n - sure - 1, n - sure, n - sure + 1, n, n + 1, 1 << 40, math.MaxInt - sure, math.MaxInt - n, math.MaxInt} {
			want := s.Bytes[:sure+min(max(keep, 0), n-sure)]
			if got := impl.FallStore(withSure(s, sure), keep); !bytes.Equal(got, want) {
				t.Errorf("FallStore of %d bytes, %d sure, keeping %d: %d bytes; want %d", n, sure, keep, len(got), len(want))
			}
		}
		for _, keep := range []int{-1, -2, -n, math.MinInt, math.MinInt + 1} {
			if got := impl.FallStore(withSure(s, sure), keep); !bytes.Equal(got, s.Bytes[:sure]) {
				t.Errorf("FallStore of %d bytes, %d sure, keeping %d: %d bytes", n, sure, keep, len(got))
			}
		}
	}
	for _, keep := range []int{math.MinInt, -1, 0, 1, math.MaxInt} {
		if got := impl.FallStore(impl.StoreNew(), keep); len(got) != 0 {
			t.Errorf("FallStore of a new store, keeping %d: %x", keep, got)
		}
	}
}

// Nothing but the bytes, Sure and keep is asked: below 0 no byte is sure, past the end all are.
func TestWhatACrashLeavesOfWrongStores(t *testing.T) {
	for _, b := range [][]byte{nil, []byte("abc"), bytesOf(70000)} {
		for _, sure := range append(notBytesPlaces, 0, 1, len(b), len(b)+1) {
			for _, keep := range []int{math.MinInt, -1, 0, 1, 2, len(b), math.MaxInt} {
				s := impl.Store{Bytes: b, Sure: sure}
				if got, want := impl.FallStore(s, keep), fallByModel(s, keep); !bytes.Equal(got, want) {
					t.Errorf("FallStore of %d bytes, %d sure, keeping %d: %d bytes; want %d", len(b), sure, keep, len(got), len(want))
				}
			}
		}
	}
}

// Promise 12: what was sure is there behind any crash, and perhaps more of what was taken, in order.
func TestWhatWasSureIsThereBehindAnyCrash(t *testing.T) {
	for _, texts := range [][]string{{"a", "", "ccc", "d", "e"}, {"", "", "", "", ""}, leafTexts(5)} {
		for _, cuts := range [][]int{nil, {1}, {5}, {1, 2, 3, 4, 5}, {2, 5}, {1, 4, 5}, {3, 4}} {
			s, table := storeOf(texts, cuts...)
			ends := append([]int{0}, endsOf(s.Bytes)...)
			for sureAt, sure := range ends {
				for keep := -1; keep <= len(s.Bytes)-sure+2; keep++ {
					left := impl.FallStore(withSure(s, sure), keep)
					count := 0
					for count+1 < len(ends) && ends[count+1] <= len(left) {
						count++
					}
					if count < sureAt {
						t.Errorf("of %d commits that were sure, %d are left", sureAt, count)
					}
					want, _ := storeOf(texts, cuts[:count]...)
					wantOpen(t, "behind a crash", table, left, withSure(want, ends[count]), count)
				}
			}
		}
	}
}

// A store that fell, was opened, and goes on, falls again.
func TestStoresGoOnBehindACrash(t *testing.T) {
	texts := leafTexts(20)
	_, table := storeOf(texts, 1, 2, 3, 5, 8, 9, 10, 12, 15, 18, 19, 20)
	for first := range 4 {
		s, sure := impl.StoreNew(), 0
		for i := 0; len(s.L.Texts) < len(texts) && i < 200; i++ {
			at := slices.IndexFunc(table, func(h impl.Head) bool { return h.Size > len(s.L.Texts) })
			h := table[at]
			s, _ = wantTakeLikeModel(t, "going on", s, table, h, texts[len(s.L.Texts):h.Size])
			if i%4 == first {
				s = impl.MakeSure(s)
				sure = len(s.L.Texts)
			}
			if i%3 == 2 {
				s, _ = impl.OpenStore(table, impl.FallStore(s, i*7%100))
				if len(s.L.Texts) < sure || !slices.Equal(s.L.Texts, texts[:len(s.L.Texts)]) {
					t.Fatalf("of %d texts that were sure, %d are there", sure, len(s.L.Texts))
				}
				sure = len(s.L.Texts)
			}
			wantStoreOk(t, "going on", s, true)
		}
		all := cloneStore(s)
		all.L = madeLog(texts)
		wantStore(t, "at the end", s, all)
	}
}

func TestOpenStoreStopsAtWhatWasNotSigned(t *testing.T) {
	texts := []string{"a", "b", "", "d", "e"}
	s, table := storeOf(texts, 1, 2, 4, 5)
	for signed := range 1 << len(table) {
		var some []impl.Head
		count := len(table)
		for i := len(table) - 1; i >= 0; i-- {
			if signed>>i&1 == 1 {
				some = append(some, table[i]) // in no order of their Sizes
			} else {
				count = i
			}
		}
		want, _ := storeOf(texts, []int{1, 2, 4, 5}[:count]...)
		want.Sure = len(want.Bytes)
		near := []impl.Head{zeroHead, impl.HeadOf(nil), headWith(1, "a"), headWith(2, "a"), {Size: 4, Root: table[3].Root}, {Size: 5, Root: table[2].Root}, {Size: 1}}
		wantOpen(t, "some are signed", some, s.Bytes, want, count)
		wantOpen(t, "some are signed, and others", append(near, some...), s.Bytes, want, count)
		wantOpen(t, "some are signed, and more behind", some, append(bytes.Clone(s.Bytes), "\x01\x02"...), want, count)
	}
	wantOpen(t, "no table", nil, s.Bytes, impl.StoreNew(), 0)
	wantOpen(t, "no bytes", table, nil, impl.StoreNew(), 0)
	wantOpen(t, "neither", nil, nil, impl.StoreNew(), 0)
}

func TestOpenStoreStopsAtWhatIsNoCommit(t *testing.T) {
	texts := []string{"a", "bb", "c"}
	cuts := []int{1, 2, 3}
	s, table := storeOf(texts, cuts...)
	ends := endsOf(s.Bytes)
	for i := range s.Bytes {
		count := 0
		for ends[count] <= i {
			count++
		}
		want, _ := storeOf(texts, cuts[:count]...)
		want.Sure = len(want.Bytes)
		for _, turn := range []byte{1, 128, 255} {
			turned := bytes.Clone(s.Bytes)
			turned[i] ^= turn
			wantOpen(t, "a turned byte", table, turned, want, count)
		}
		wantOpen(t, "a byte less", table, slices.Delete(bytes.Clone(s.Bytes), i, i+1), want, count)
	}
	for i, at := range append([]int{0}, ends...) {
		want, _ := storeOf(texts, cuts[:i]...)
		want.Sure = len(want.Bytes)
		for _, more := range []string{"\x00", "x", "\x80", string(sealed("")), string(commitByModel(headByModel(texts[:i]), nil))} {
			wantOpen(t, "bytes between", table, slices.Concat(s.Bytes[:at], []byte(more), s.Bytes[at:]), want, i)
		}
	}
}

// What is a commit, and signed, is not taken for that: Extend refuses it here as elsewhere.
func TestOpenStoreStopsAtWhatALogRefuses(t *testing.T) {
	texts := []string{"a", "b", "c", "d"}
	s, table := storeOf(texts, 1, 2)
	want := withSure(s, len(s.Bytes))
	three, four := headByModel(texts[:3]), headByModel(texts)
	table = append(table, three, four, headWith(3, "x"), headWith(4, "x"), impl.HeadOf(nil))
	last := commitByModel(three, texts[2:3])
	for what, commit := range map[string][]byte{
		"another text":             commitByModel(three, []string{"x"}),
		"another Root":             commitByModel(headWith(3, "x"), texts[2:3]),
		"a Size that is too great": commitByModel(four, texts[2:3]),
		"a Size that is too small": commitByModel(table[1], texts[2:3]),
		"a Size of 0":              commitByModel(impl.HeadOf(nil), texts[2:3]),
		"the same once more":       commitByModel(table[1], texts[1:2]),
		"all texts once more":      commitByModel(three, texts[:3]),
		"the first once more":      commitByModel(table[0], texts[:1]),
		"not signed":               commitByModel(headByModel([]string{"a", "b", "x"}), []string{"x"}),
	} {
		wantOpen(t, what, table, slices.Concat(s.Bytes, commit), want, 2)
		wantOpen(t, what+", and a right one behind", table, slices.Concat(s.Bytes, commit, last), want, 2)
		wantOpenLikeModel(t, what+", ahead of all", table, slices.Concat(commit, s.Bytes))
	}
	got, _ := storeOf(texts, 1, 2, 3)
	wantOpen(t, "a right one", table, slices.Concat(s.Bytes, last), withSure(got, len(got.Bytes)), 3)
}

func TestOpenStoreTakesAllThatALogMayHave(t *testing.T) {
	for _, texts := range edgeLists(203) {
		for _, step := range []int{1, 7, 100, 200} {
			var ends []int
			for to := step; to < 200; to += step {
				ends = append(ends, to)
			}
			s, table := storeOf(texts, append(ends, 200)...)
			want := withSure(s, len(s.Bytes))
			wantOpen(t, "200 texts", table, s.Bytes, want, len(table))
			over := impl.Head{Size: 200, Root: rootByModel(texts[:201])}
			for _, h := range []impl.Head{over, s.L.H, headWith(1, "a")} {
				more := slices.Concat(s.Bytes, commitByModel(h, texts[200:201]))
				wantOpen(t, "one more", append(table, h, zeroHead), more, want, len(table))
				wantStoreOk(t, "one more", impl.Store{L: s.L, Bytes: more}, false)
				wantStoreOk(t, "one more", impl.Store{L: impl.Log{Texts: texts[:201]}, Bytes: more}, false)
				wantTake(t, "one more", s, append(table, h), h, texts[200:201], s, impl.LogForm)
			}
		}
	}
}

// bigStore has its commits end at these places, of a text each.
func bigStore(t *testing.T, places ...int) (impl.Store, []impl.Head, []string) {
	t.Helper()
	var texts []string
	var ends []int
	at := 0
	for i, place := range places {
		texts = append(texts, fillerTo(t, i+1, place-at))
		ends = append(ends, i+1)
		at = place
	}
	s, table := storeOf(texts, ends...)
	if len(s.Bytes) != at {
		t.Fatalf("%d bytes; want %d", len(s.Bytes), at)
	}
	return s, table, texts
}

func TestStoresOfMaxBytes(t *testing.T) {
	if impl.MaxBytes != 60000 {
		t.Fatalf("MaxBytes is %d", impl.MaxBytes)
	}
	for _, places := range [][]int{{59999}, {60000}, {60001}, {30000, 60000}, {30000, 60001}, {59950, 60000}, {59950, 60001}, {60000, 60100}, {70000}} {
		s, table, texts := bigStore(t, places...)
		right := len(s.Bytes) <= 60000
		wantStoreOk(t, "near MaxBytes", s, right)
		wantStoreOk(t, "near MaxBytes, all sure", withSure(s, len(s.Bytes)), right)
		if !right {
			wantStore(t, "MakeSure", impl.MakeSure(s), s)
			h := headWith(len(texts)+1, "a")
			wantTake(t, "past MaxBytes", s, append(table, h), h, []string{"x"}, s, impl.LogForm)
		}
		n := len(places) - 1
		before, _ := storeOf(texts, []int{1, 2, 3}[:n]...)
		got, code := wantTakeLikeModel(t, "near MaxBytes", before, table, table[n], texts[n:])
		if right != (code == impl.LogGood && len(got.Bytes) == places[n]) && places[0] <= 60000 {
			t.Errorf("commits to %v: the code %d, %d bytes", places, code, len(got.Bytes))
		}
	}
}

// Bytes that would be too many are told ahead of all that Extend would say.
func TestTooManyBytesComeFirst(t *testing.T) {
	s, table, texts := bigStore(t, 30000, 60000)
	one, _ := storeOf(texts, 1)
	unsigned, other := table[:1], headWith(2, "x")
	big := []string{texts[1] + "f"}
	right := headByModel([]string{texts[0], big[0]})
	both := []impl.Head{right, other, table[1]}
	wantTake(t, "all is right but how many", one, both, right, big, one, impl.LogForm)
	wantTake(t, "and not signed", one, unsigned, right, big, one, impl.LogForm)
	wantTake(t, "and another Root", one, both, other, big, one, impl.LogForm)
	wantTake(t, "and another Root, not signed", one, unsigned, other, big, one, impl.LogForm)
	wantTake(t, "just as many", one, table, table[1], texts[1:], s, impl.LogGood)
	wantTake(t, "just as many, not signed", one, unsigned, table[1], texts[1:], one, impl.LogUnsigned)
	wantTake(t, "just as many, another Root", one, both, other, texts[1:], one, impl.LogRoot)
	wantTake(t, "no texts behind all bytes", s, table, table[1], nil, s, impl.LogBack)
	wantTake(t, "no texts behind all bytes, not signed", s, unsigned, table[1], nil, s, impl.LogUnsigned)
	wantTake(t, "one text behind all bytes", s, []impl.Head{headWith(3, "x")}, headWith(3, "x"), []string{""}, s, impl.LogForm)
	wantTake(t, "one text behind all bytes, not signed", s, nil, headWith(3, "x"), []string{""}, s, impl.LogForm)
	many := slices.Repeat([]string{strings.Repeat("m", 5000)}, 201)
	wantTake(t, "too many texts, and bytes", one, both, right, many, one, impl.LogForm)
}

func TestOpenStoreTakesItsFirstBytes(t *testing.T) {
	for _, c := range []struct {
		places []int
		count  int
	}{
		{[]int{60000}, 1}, {[]int{60001}, 0}, {[]int{30000, 60000}, 2}, {[]int{30000, 60001}, 1}, {[]int{30000, 60001, 60100}, 1},
		{[]int{30000, 60000, 60100}, 2}, {[]int{59900, 59999, 60050}, 2}, {[]int{59900, 59960, 60003, 60050}, 2}, {[]int{90000, 90100}, 0}, {[]int{20000, 40000, 60000, 80000}, 3},
	} {
		s, table, texts := bigStore(t, c.places...)
		want, _ := storeOf(texts, []int{1, 2, 3, 4}[:c.count]...)
		want.Sure = len(want.Bytes)
		wantOpen(t, "commits past MaxBytes", table, s.Bytes, want, c.count)
		wantOpen(t, "commits past MaxBytes, and other bytes", table, append(s.Bytes, bytesOf(70000)...), want, c.count)
	}
}

// wrongStores: what is no store, though some of it is near to one.
func wrongStores() map[string]impl.Store {
	texts := []string{"a", "b", "c", "d"}
	right, table := storeOf(texts, 1, 3, 4)
	ends := endsOf(right.Bytes)
	first, second, third := right.Bytes[:ends[0]], right.Bytes[ends[0]:ends[1]], right.Bytes[ends[1]:]
	of := func(parts ...[]byte) impl.Store { return impl.Store{L: right.L, Bytes: slices.Concat(parts...)} }
	stores := map[string]impl.Store{
		"the zero one":                     {},
		"no log":                           {Bytes: right.Bytes},
		"texts without a head":             {L: impl.Log{Texts: texts}, Bytes: right.Bytes},
		"a head of other texts":            {L: impl.Log{Texts: texts, H: table[1]}, Bytes: right.Bytes},
		"another Root":                     {L: impl.Log{Texts: texts, H: headWith(4, "x")}, Bytes: right.Bytes},
		"a new log":                        {L: impl.LogNew(), Bytes: right.Bytes},
		"no bytes":                         of(),
		"fewer texts than commits":         {L: madeLog(texts[:3]), Bytes: right.Bytes},
		"more texts than commits":          of(first, second),
		"more texts than the second":       of(first, third),
		"no first commit":                  of(second, third),
		"another order":                    of(second, first, third),
		"the last commit twice":            of(first, second, third, third),
		"the first commit twice":           of(first, first, second, third),
		"other texts":                      {L: madeLog([]string{"a", "b", "x", "d"}), Bytes: right.Bytes},
		"another first text":               {L: madeLog([]string{"x", "b", "c", "d"}), Bytes: right.Bytes},
		"another last text":                {L: madeLog([]string{"a", "b", "c", "x"}), Bytes: right.Bytes},
		"texts in another order":           {L: madeLog([]string{"b", "a", "c", "d"}), Bytes: right.Bytes},
		"a byte behind":                    of(right.Bytes, []byte{0}),
		"a byte ahead":                     of([]byte{0}, right.Bytes),
		"a byte between":                   of(first, []byte{0}, second, third),
		"a beginning of a commit behind":   of(right.Bytes, commitByModel(headWith(5, "x"), []string{"e"})[:41]),
		"a commit of no texts behind":      of(right.Bytes, commitByModel(table[2], nil)),
		"a commit of no texts alone":       {L: impl.LogNew(), Bytes: commitByModel(impl.HeadOf(nil), nil)},
		"a byte alone":                     {L: impl.LogNew(), Bytes: []byte{0}},
		"a head with another Root":         of(commitByModel(headWith(1, "x"), texts[:1]), second, third),
		"a last head with another Root":    of(first, second, commitByModel(headWith(4, "x"), texts[3:])),
		"a head with another Size":         of(commitByModel(impl.Head{Size: 2, Root: table[0].Root}, texts[:1]), second, third),
		"a head with the Size 0":           of(commitByModel(impl.Head{Size: 0, Root: table[0].Root}, texts[:1]), second, third),
		"a head of these texts alone":      of(first, commitByModel(headByModel(texts[1:3]), texts[1:3]), third),
		"a head of all texts":              of(commitByModel(table[2], texts[:1]), second, third),
		"the head of the texts ahead":      of(first, commitByModel(table[0], texts[1:3]), third),
		"a wrong head, sealed":             of(first, commitByModel(impl.Head{Size: 3, Root: table[1].Root[:31]}, texts[1:3]), third),
		"a commit whose last byte is gone": of(first, second, third[:len(third)-1]),
	}
	for i := range right.Bytes {
		turned := bytes.Clone(right.Bytes)
		turned[i] ^= 4
		stores["a turned byte at "+strconv.Itoa(i)] = of(turned)
	}
	return stores
}

func TestWhatIsNoStore(t *testing.T) {
	texts := []string{"a", "b", "c", "d"}
	right, table := storeOf(texts, 1, 3, 4)
	wantStoreOk(t, "all of it", right, true)
	for what, s := range wrongStores() {
		wantStoreOk(t, what, s, false)
		for _, w := range []impl.Store{s, withSure(s, len(s.Bytes))} {
			wantStore(t, what+": MakeSure", impl.MakeSure(w), w)
			more := append(slices.Clone(s.L.Texts), "e")
			h := headByModel(more)
			wantTake(t, what, w, append(table, h), h, []string{"e"}, w, impl.LogForm)
			wantTake(t, what+", not signed", w, table, h, []string{"e"}, w, impl.LogForm)
			wantTake(t, what+", no texts", w, append(table, s.L.H), s.L.H, nil, w, impl.LogForm)
			wantTake(t, what+", no texts, not signed", w, nil, s.L.H, nil, w, impl.LogForm)
			other := headWith(len(more), "x")
			wantTake(t, what+", another Root", w, append(table, other), other, []string{"e"}, w, impl.LogForm)
			wantTake(t, what+", a wrong head", w, []impl.Head{zeroHead}, zeroHead, []string{"e"}, w, impl.LogForm)
		}
	}
	for _, l := range wrongLogs() {
		s := impl.Store{L: l}
		wantStoreOk(t, "a wrong log", s, false)
		wantStore(t, "MakeSure", impl.MakeSure(s), s)
		h := headByModel(append(slices.Clone(l.Texts), "x"))
		wantTake(t, "a wrong log", s, []impl.Head{h}, h, []string{"x"}, s, impl.LogForm)
	}
}

// The codes of Extend come through, with the store as it was.
func TestWhichCodeOfAStoreComesFirst(t *testing.T) {
	texts := []string{"a", "b", "c", "d"}
	s, table := storeOf(texts, 1, 2)
	two, three, other, two2 := table[1], headByModel(texts[:3]), headWith(3, "x"), headWith(2, "x")
	all := []impl.Head{two, three, other, two2, {Size: 3}, headWith(201, "x"), headWith(1, "x")}
	for _, sure := range []int{0, 1, endsOf(s.Bytes)[0], len(s.Bytes)} {
		s = withSure(s, sure)
		for _, c := range []struct {
			what  string
			table []impl.Head
			h     impl.Head
			texts []string
			code  int
		}{
			{"none", all, three, texts[2:3], impl.LogGood},
			{"form: no Root", all, impl.Head{Size: 3}, texts[2:3], impl.LogForm},
			{"form: another Size", all, two, texts[2:3], impl.LogForm},
			{"form: too great a Size", all, headWith(201, "x"), texts[2:3], impl.LogForm},
			{"form: too many texts", append(all, headWith(200, "x")), headWith(200, "x"), manyTexts(201), impl.LogForm},
			{"form and unsigned", all[2:], two, texts[2:3], impl.LogForm},
			{"form and back", all, three, nil, impl.LogForm},
			{"form, unsigned and back", nil, three, nil, impl.LogForm},
			{"unsigned", []impl.Head{two, other, two2}, three, texts[2:3], impl.LogUnsigned},
			{"unsigned and back", []impl.Head{three, two2}, two, nil, impl.LogUnsigned},
			{"unsigned and root", []impl.Head{two, three}, other, texts[2:3], impl.LogUnsigned},
			{"unsigned: an empty table", nil, three, texts[2:3], impl.LogUnsigned},
			{"back", all, two, nil, impl.LogBack},
			{"back: an empty list", all, two, []string{}, impl.LogBack},
			{"back and root", all, two2, nil, impl.LogBack},
			{"root: another Root", all, other, texts[2:3], impl.LogRoot},
			{"root: other texts", all, three, texts[3:], impl.LogRoot},
		} {
			want, code := takeByModel(s, c.table, c.h, c.texts)
			if code != c.code || code != impl.LogGood && !sameStore(want, s) {
				t.Errorf("%s: the model gives %d", c.what, code)
			}
			wantTake(t, c.what, s, c.table, c.h, c.texts, want, c.code)
		}
	}
}

func TestNoTextsForANewStore(t *testing.T) {
	s, none := impl.StoreNew(), impl.HeadOf(nil)
	wantTake(t, "no texts", s, []impl.Head{none}, none, nil, s, impl.LogBack)
	wantTake(t, "no texts, not signed", s, nil, none, nil, s, impl.LogUnsigned)
	wantTake(t, "no texts, a wrong head", s, []impl.Head{zeroHead}, zeroHead, nil, s, impl.LogForm)
	one := impl.HeadOf([]string{""})
	want, _ := storeOf([]string{""}, 1)
	wantTake(t, "an empty text", s, []impl.Head{one}, one, []string{""}, want, impl.LogGood)
	wantTake(t, "the zero store", impl.Store{}, []impl.Head{one}, one, []string{""}, impl.Store{}, impl.LogForm)
}

// Of all that is small, whatever is done, in whatever order.
func TestSmallStoresLikeModel(t *testing.T) {
	lists := listsOf([]string{"a", "b"}, 2)
	heads := []impl.Head{headWith(1, "a"), headWith(2, "a")}
	table := heads[:1:1]
	for _, l := range listsOf([]string{"a", "b"}, 3) {
		h := headByModel(l)
		heads = append(heads, h)
		if !slices.Equal(l, []string{"a", "b"}) {
			table = append(table, h)
		}
	}
	row := []impl.Store{impl.StoreNew()}
	met := [5]int{}
	for at := 0; at < len(row); at++ {
		for _, texts := range lists {
			for _, h := range heads {
				next, code := wantTakeLikeModel(t, "small", row[at], table, h, texts)
				met[code]++
				if code == impl.LogGood {
					row = append(row, next, impl.MakeSure(next))
				}
			}
		}
		for _, keep := range []int{0, 1, 41, 42, 1000} {
			left := fallByModel(row[at], keep)
			if got := impl.FallStore(row[at], keep); !bytes.Equal(got, left) {
				t.Errorf("FallStore keeping %d: %x; want %x", keep, got, left)
			}
			wantOpenLikeModel(t, "small", table, left)
			wantOpenLikeModel(t, "small, fewer signed", table[:at%len(table)], left)
		}
		wantStoreOk(t, "small", row[at], isStoreByModel(row[at]))
	}
	if slices.Contains(met[:], 0) || len(row) < 90 {
		t.Errorf("how often each code was met: %v; %d stores", met, len(row))
	}
}

// Two lists of one root are two stores. (This takes digests that do clash.)
func TestStoresOfOneRoot(t *testing.T) {
	if !overWeakDigests(t) {
		return
	}
	met := 0
	lists := listsOf([]string{"a", "b", "c", "d"}, 3)
	for _, l := range lists {
		h := impl.HeadOf(l)
		for _, m := range lists {
			if len(l) == 0 || len(l) != len(m) || impl.HeadOf(m) != h {
				continue
			}
			s, code := impl.Commit(impl.StoreNew(), []impl.Head{h}, h, l)
			if code != impl.LogGood {
				t.Fatalf("%q: the code %d", l, code)
			}
			wantStoreOk(t, "its own texts", s, true)
			if !slices.Equal(l, m) {
				met++
				s.L = impl.Log{Texts: m, H: h}
				wantStoreOk(t, "other texts of one root", s, false)
			}
		}
	}
	if met == 0 {
		t.Error("no two lists have one root")
	}
}

// storeCall is what a store was handed; no two of its texts share memory.
type storeCall struct {
	s     impl.Store
	table []impl.Head
	h     impl.Head
	texts []string
	keep  int
}

// storeCalls has each code of logs, stores that are right and wrong, with room behind each list.
func storeCalls() []storeCall {
	var calls []storeCall
	for _, c := range logCalls() {
		var ends []int
		for i := range min(len(c.l.Texts), 9) {
			ends = append(ends, i+1)
		}
		s, table := storeOf(c.l.Texts, ends...)
		s.L = impl.Log{Texts: c.l.Texts, H: impl.Head{Size: c.l.H.Size, Root: strings.Clone(c.l.H.Root)}}
		for i, h := range table {
			c.table = append(c.table, impl.Head{Size: h.Size, Root: strings.Clone(h.Root)})
			if i == 2 {
				break
			}
		}
		for _, cut := range []int{0, 1} {
			b := roomy(string(s.Bytes[:max(len(s.Bytes)-cut, 0)]), strings.Repeat("\x07room", 200))
			l := impl.Log{Texts: spared(s.L.Texts, slices.Repeat([]string{"spare"}, 20)...), H: s.L.H}
			call := storeCall{impl.Store{L: l, Bytes: b, Sure: len(b) / 2}, sparedHeads(c.table), c.h, spared(c.texts, "spare", "room"), len(b) / 4}
			calls = append(calls, call)
		}
	}
	return calls
}

// storeAnswers: all stores, bytes, heads and texts that come of a call.
func storeAnswers(c storeCall) ([]impl.Store, [][]byte, []string) {
	taken, _ := impl.Commit(c.s, c.table, c.h, c.texts)
	opened, _ := impl.OpenStore(c.table, c.s.Bytes)
	h, texts, _, _ := impl.GetCommit(c.s.Bytes, 0)
	stores := []impl.Store{taken, opened, impl.MakeSure(c.s), impl.StoreNew()}
	return stores, [][]byte{impl.FallStore(c.s, c.keep), impl.PutCommit(c.h, c.texts)}, append(texts, h.Root)
}

func TestStoreCallsMeetEachCode(t *testing.T) {
	met := [5]int{}
	for _, c := range storeCalls() {
		_, code := wantTakeLikeModel(t, "a call", c.s, c.table, c.h, c.texts)
		met[code]++
		wantOpenLikeModel(t, "a call", c.table, c.s.Bytes)
		wantStoreOk(t, "a call", c.s, isStoreByModel(c.s))
	}
	if slices.Contains(met[:], 0) {
		t.Errorf("how often each code was met: %v", met)
	}
}

func TestStoresLeaveTheirListsAlone(t *testing.T) {
	for i, c := range storeCalls() {
		kept, keptTexts, keptMore, keptTable := wholeOf(c.s.Bytes), slices.Clone(c.s.L.Texts[:cap(c.s.L.Texts)]), slices.Clone(c.texts[:cap(c.texts)]), slices.Clone(c.table[:cap(c.table)])
		storeAnswers(c)
		impl.StoreOk(c.s)
		for at := -1; at <= len(c.s.Bytes)+1; at++ {
			impl.GetCommit(c.s.Bytes, at)
			impl.FallStore(c.s, at)
		}
		if wholeOf(c.s.Bytes) != kept {
			t.Errorf("the bytes of call %d, or the room behind them, were written into", i)
		}
		if !slices.Equal(c.s.L.Texts[:cap(c.s.L.Texts)], keptTexts) || !slices.Equal(c.texts[:cap(c.texts)], keptMore) {
			t.Errorf("the texts of call %d, or the room behind them, were written into", i)
		}
		if !slices.Equal(c.table[:cap(c.table)], keptTable) {
			t.Errorf("the table of call %d, or the room behind it, was written into", i)
		}
	}
}

// spoilt fills bytes, and the room behind them, with others.
func spoilt(b []byte) {
	for i := range b[:cap(b)] {
		b[:cap(b)][i] = 0xee
	}
}

func TestStoresShareNoList(t *testing.T) {
	for i, c := range storeCalls() {
		given := storeCall{cloneStore(c.s), nil, c.h, slices.Clone(c.texts), c.keep}
		stores, lists, texts := storeAnswers(c)
		var kept []impl.Store
		for _, s := range stores {
			kept = append(kept, cloneStore(s))
			kept[len(kept)-1].L.Texts = strings.Split(strings.Join(s.L.Texts, "|"), "|")[:len(s.L.Texts)]
		}
		keptLists, keptTexts := [][]byte{bytes.Clone(lists[0]), bytes.Clone(lists[1])}, strings.Join(texts, "|")
		others, otherLists, otherTexts := storeAnswers(c)
		for at, s := range others { // one answer's lists share nothing with each other
			spoilt(s.Bytes)
			if !sameLog(s.L, kept[at].L) {
				t.Errorf("the texts of store %d of call %d share memory with its bytes", at, i)
			}
			overwritten(s.L.Texts)
		}
		spoilt(otherLists[0])
		spoilt(otherLists[1])
		overwritten(otherTexts)
		if !sameStore(c.s, given.s) || !slices.Equal(c.texts, given.texts) {
			t.Errorf("an answer of call %d shares a list with what was given", i)
		}
		spoilt(c.s.Bytes)
		overwritten(c.s.L.Texts)
		overwritten(c.texts)
		for at, s := range stores {
			wantStore(t, "what was answered ahead", s, kept[at])
		}
		if !bytes.Equal(lists[0], keptLists[0]) || !bytes.Equal(lists[1], keptLists[1]) || strings.Join(texts, "|") != keptTexts {
			t.Errorf("an answer of call %d hangs on another one, or on what was given", i)
		}
	}
}

func TestStoresShareNoText(t *testing.T) {
	for i, c := range storeCalls() {
		given := slices.Concat(c.s.L.Texts, c.texts, []string{c.h.Root, c.s.L.H.Root})
		for _, h := range c.table {
			given = append(given, h.Root)
		}
		stores, _, parts := storeAnswers(c)
		for _, s := range stores {
			parts = append(append(parts, s.L.Texts...), s.L.H.Root)
		}
		for _, p := range parts {
			if slices.ContainsFunc(given, func(s string) bool { return within(p, s) }) {
				t.Errorf("%.20q of the answers of call %d is a piece of what was given", p, i)
			}
		}
	}
}

// What stands in the room behind bytes is none of them: neither a sum, nor a text, nor a commit.
func TestTheRoomBehindAStoreIsNotRead(t *testing.T) {
	texts := []string{"a", "b", "c"}
	s, table := storeOf(texts, 1, 2, 3)
	ends := append([]int{0}, endsOf(s.Bytes)...)
	for n := range len(s.Bytes) {
		count := 0
		for ends[count+1] <= n {
			count++
		}
		want, _ := storeOf(texts, []int{1, 2, 3}[:count]...)
		want.Sure = len(want.Bytes)
		wantOpen(t, "room behind", table, s.Bytes[:n], want, count)
		wantNoCommit(t, s.Bytes[:n], ends[count])
		wantStoreOk(t, "room behind", impl.Store{L: s.L, Bytes: s.Bytes[:n]}, false)
		if got := impl.FallStore(impl.Store{Bytes: s.Bytes[:n]}, math.MaxInt); len(got) != n {
			t.Errorf("FallStore of %d bytes: %d", n, len(got))
		}
	}
}
