package tests

import (
	"math"
	"slices"
	"strings"
	"testing"

	"loop.example/g00233/impl"
)

// headByModel is that of any texts, and the zero one of too many.
func headByModel(l []string) impl.Head {
	if len(l) > 200 {
		return zeroHead
	}
	return impl.Head{Size: len(l), Root: rootByModel(l)}
}

func madeLog(l []string) impl.Log { return impl.Log{Texts: l, H: headByModel(l)} }

func cloneLog(l impl.Log) impl.Log { return impl.Log{Texts: slices.Clone(l.Texts), H: l.H} }

func sameLog(a, b impl.Log) bool { return a.H == b.H && slices.Equal(a.Texts, b.Texts) }

// reasons tells all codes that apply, each a bit: whether one is ahead of another is not asked here.
func reasons(l impl.Log, table []impl.Head, h impl.Head, texts []string) int {
	all := slices.Concat(l.Texts, texts)
	found := 0
	for code, applies := range map[int]bool{
		impl.LogForm:     !isLogByModel(l) || h.Size < 0 || h.Size > 200 || len(h.Root) != 32 || h.Size != len(all),
		impl.LogUnsigned: !isSignedByModel(table, h),
		impl.LogBack:     len(texts) == 0,
		impl.LogRoot:     h != headByModel(all),
	} {
		if applies {
			found |= 1 << code
		}
	}
	return found
}

func isLogByModel(l impl.Log) bool {
	return len(l.Texts) <= 200 && l.H.Size == len(l.Texts) && l.H.Root == rootByModel(l.Texts)
}

func extendByModel(l impl.Log, table []impl.Head, h impl.Head, texts []string) (impl.Log, int) {
	found := reasons(l, table, h, texts)
	for code := 1; code <= 4; code++ {
		if found&(1<<code) != 0 {
			return l, code
		}
	}
	return impl.Log{Texts: slices.Concat(l.Texts, texts), H: h}, 0
}

func wantLogOk(t *testing.T, l impl.Log, want bool) {
	t.Helper()
	if got := impl.LogOk(l); got != want {
		t.Errorf("LogOk of %d texts and the head %d, %x: %v", len(l.Texts), l.H.Size, l.H.Root, got)
	}
}

func wantExtend(t *testing.T, l impl.Log, table []impl.Head, h impl.Head, texts []string, want impl.Log, code int) {
	t.Helper()
	got, gotCode := impl.Extend(l, table, h, texts)
	if gotCode != code {
		t.Errorf("Extend of %d texts by %d, with %d, %x: the code %d; want %d", len(l.Texts), len(texts), h.Size, h.Root, gotCode, code)
	}
	if !sameLog(got, want) {
		t.Errorf("Extend of %d texts by %d, with %d, %x: %d texts and the head %d, %x; want %d, and %d, %x",
			len(l.Texts), len(texts), h.Size, h.Root, len(got.Texts), got.H.Size, got.H.Root, len(want.Texts), want.H.Size, want.H.Root)
	}
}

// wantTaken: all texts are there, with the head, and they are a log.
func wantTaken(t *testing.T, l impl.Log, table []impl.Head, h impl.Head, texts []string) {
	t.Helper()
	all := slices.Concat(l.Texts, texts)
	wantExtend(t, l, table, h, texts, impl.Log{Texts: all, H: h}, impl.LogGood)
	got, _ := impl.Extend(l, table, h, texts)
	wantLogOk(t, got, true)
}

func wantRefused(t *testing.T, l impl.Log, table []impl.Head, h impl.Head, texts []string, code int) {
	t.Helper()
	wantExtend(t, l, table, h, texts, l, code)
}

func wantExtendLikeModel(t *testing.T, l impl.Log, table []impl.Head, h impl.Head, texts []string) {
	t.Helper()
	want, code := extendByModel(l, table, h, texts)
	wantExtend(t, l, table, h, texts, want, code)
}

func wantProof(t *testing.T, what string, n, i int, path []string, ok bool, want []string) {
	t.Helper()
	wantParts(t, what, n, i, path, want)
	if !ok {
		t.Errorf("%s of %d texts, %d: false", what, n, i)
	}
}

func wantNoProof(t *testing.T, l impl.Log, i int) {
	t.Helper()
	wantNoProofIn(t, l, i)
	wantNoProofGrown(t, l, i)
}

func wantNoProofIn(t *testing.T, l impl.Log, i int) {
	t.Helper()
	if path, ok := impl.ProveIn(l, i); len(path) > 0 || ok {
		t.Errorf("ProveIn of %d texts and the head %d, %x, of %d = %x, %v", len(l.Texts), l.H.Size, l.H.Root, i, path, ok)
	}
}

func wantNoProofGrown(t *testing.T, l impl.Log, n int) {
	t.Helper()
	if path, ok := impl.ProveGrown(l, n); len(path) > 0 || ok {
		t.Errorf("ProveGrown of %d texts and the head %d, %x, of %d = %x, %v", len(l.Texts), l.H.Size, l.H.Root, n, path, ok)
	}
}

// wrongLogs: what is no log, though some of it is near to one.
func wrongLogs() []impl.Log {
	logs := []impl.Log{{}, {H: headWith(0, "a")}, {H: impl.Head{Size: 1, Root: sumOf("")}}, {Texts: []string{""}}, {Texts: []string{""}, H: impl.HeadOf(nil)}}
	for _, n := range []int{1, 2, 3, 5, 64, 199, 200} {
		l := leafTexts(n)
		h := impl.HeadOf(l)
		for _, head := range []impl.Head{
			zeroHead, impl.HeadOf(nil), impl.HeadOf(l[:n-1]), impl.HeadOf(changed(l, n-1)), impl.HeadOf(changed(l, 0)),
			{Size: n}, {Size: n - 1, Root: h.Root}, {Size: n + 1, Root: h.Root}, {Size: -n, Root: h.Root}, {Size: 1<<32 + n, Root: h.Root},
			{Size: n, Root: h.Root[:31]}, {Size: n, Root: h.Root + "\x00"}, {Size: n, Root: impl.HexOf(h.Root)}, headWith(n, "a"),
		} {
			logs = append(logs, impl.Log{Texts: l, H: head})
		}
	}
	for _, n := range []int{201, 202, 256, 400} {
		l := leafTexts(n)
		for _, head := range []impl.Head{zeroHead, impl.HeadOf(nil), impl.HeadOf(l[:200]), {Size: n, Root: rootByModel(l)}, {Size: 200, Root: rootByModel(l)}} {
			logs = append(logs, impl.Log{Texts: l, H: head})
		}
	}
	return logs
}

func TestANewLog(t *testing.T) {
	l := impl.LogNew()
	if len(l.Texts) != 0 || l.H != (impl.Head{Size: 0, Root: sumOf("")}) {
		t.Errorf("LogNew = %q, %d, %x", l.Texts, l.H.Size, l.H.Root)
	}
	wantLogOk(t, l, true)
	wantLogOk(t, impl.Log{Texts: []string{}, H: impl.HeadOf(nil)}, true)
	wantLogOk(t, impl.Log{}, false)
}

func TestLogsOfEachSize(t *testing.T) {
	for n := range impl.MaxLeaves + 1 {
		for _, l := range edgeLists(n) {
			wantLogOk(t, impl.Log{Texts: l, H: impl.HeadOf(l)}, true)
			wantLogOk(t, madeLog(l), true)
			wantLogOk(t, impl.Log{Texts: l, H: impl.Head{Size: n + 1, Root: rootByModel(l)}}, false)
			wantLogOk(t, impl.Log{Texts: l, H: impl.Head{Size: n - 1, Root: rootByModel(l)}}, false)
			if n > 0 {
				wantLogOk(t, impl.Log{Texts: changed(l, n/2), H: impl.HeadOf(l)}, false)
				wantLogOk(t, impl.Log{Texts: l[1:], H: impl.HeadOf(l)}, false)
			}
		}
	}
}

// The head of too many texts is the zero one, and they are no log with it.
func TestTheLimitOfLogs(t *testing.T) {
	for _, l := range edgeLists(1000) {
		wantLogOk(t, impl.Log{Texts: l[:199], H: impl.HeadOf(l[:199])}, true)
		wantLogOk(t, impl.Log{Texts: l[:200], H: impl.HeadOf(l[:200])}, true)
		for _, n := range []int{201, 202, 255, 256, 257, 400, 1000} {
			wantLogOk(t, impl.Log{Texts: l[:n], H: impl.HeadOf(l[:n])}, false)
			wantLogOk(t, impl.Log{Texts: l[:n], H: impl.Head{Size: n, Root: rootByModel(l[:n])}}, false)
			wantLogOk(t, impl.Log{Texts: l[:n], H: impl.HeadOf(l[:200])}, false)
		}
	}
}

func TestWhatIsNoLog(t *testing.T) {
	for _, l := range wrongLogs() {
		wantLogOk(t, l, false)
		for _, i := range []int{-1, 0, 1, 2, len(l.Texts) - 1, len(l.Texts), l.H.Size} {
			wantNoProof(t, l, i)
		}
	}
}

func TestLogsTakeWhatWasSigned(t *testing.T) {
	texts := leafTexts(impl.MaxLeaves)
	others := []impl.Head{impl.HeadOf(nil), headWith(3, "a"), impl.HeadOf(texts[:1]), headWith(200, "b"), zeroHead}
	for _, from := range []int{0, 1, 2, 3, 5, 64, 127, 198, 199} {
		l := madeLog(texts[:from])
		if from == 0 {
			l = impl.LogNew()
		}
		for _, to := range []int{1, 2, 3, 4, 5, 8, 64, 65, 128, 199, 200} {
			if to <= from {
				continue
			}
			h := impl.HeadOf(texts[:to])
			for at := range len(others) + 1 {
				wantTaken(t, l, slices.Insert(slices.Clone(others), at, h), h, texts[from:to])
			}
			wantTaken(t, l, []impl.Head{h}, h, texts[from:to])
			wantTaken(t, l, []impl.Head{h, h}, h, texts[from:to])
		}
	}
}

// What is taken in parts comes to the log of all.
func TestLogsGrowByParts(t *testing.T) {
	for _, texts := range edgeLists(impl.MaxLeaves) {
		var table []impl.Head
		for n := range len(texts) + 1 {
			table = append(table, headByModel(texts[:n]))
		}
		for _, step := range []int{1, 3, 64, 200} {
			l := impl.LogNew()
			for n := 0; n < len(texts); n = len(l.Texts) {
				to := min(n+step, len(texts))
				next, code := impl.Extend(l, table, table[to], texts[n:to])
				if code != impl.LogGood || !sameLog(next, madeLog(texts[:to])) {
					t.Fatalf("texts %d to %d: the code %d, and %d texts", n, to, code, len(next.Texts))
				}
				l = next
			}
		}
	}
}

func TestLogsGrowToTheLimit(t *testing.T) {
	for _, texts := range edgeLists(202) {
		full, over := impl.HeadOf(texts[:200]), impl.Head{Size: 201, Root: rootByModel(texts[:201])}
		table := []impl.Head{full, over, zeroHead, {Size: 200, Root: over.Root}, {Size: 201, Root: full.Root}}
		for _, from := range []int{0, 1, 100, 198, 199} {
			l := madeLog(texts[:from])
			wantTaken(t, l, table, full, texts[from:200])
			for _, h := range table {
				wantRefused(t, l, table, h, texts[from:201], impl.LogForm)
				wantRefused(t, l, table, h, texts[from:], impl.LogForm)
			}
		}
		l := madeLog(texts[:200])
		for _, h := range table {
			wantRefused(t, l, table, h, texts[200:201], impl.LogForm)
		}
		wantRefused(t, l, table, full, nil, impl.LogBack)
	}
}

// The Size must be how many texts there are with these, not of the log alone nor of these alone.
func TestSizesThatAreNotHowManyThereAre(t *testing.T) {
	texts := leafTexts(impl.MaxLeaves)
	for _, from := range []int{0, 1, 2, 5, 100, 198} {
		l := madeLog(texts[:from])
		for _, to := range []int{from, from + 1, from + 2, 199, 200} {
			right := impl.HeadOf(texts[:to])
			for _, size := range []int{to - 1, to + 1, from, to - from, 0, -to, to + 256, 1<<32 + to, math.MinInt, math.MaxInt} {
				h := impl.Head{Size: size, Root: right.Root}
				if size != to {
					wantRefused(t, l, []impl.Head{h, right}, h, texts[from:to], impl.LogForm)
					wantRefused(t, l, nil, h, texts[from:to], impl.LogForm)
				}
			}
			if to > from {
				wantTaken(t, l, []impl.Head{right}, right, texts[from:to])
				less, h := texts[from:to-1], impl.HeadOf(texts[:to-1])
				wantRefused(t, l, []impl.Head{right, h}, right, less, impl.LogForm)
				wantRefused(t, l, []impl.Head{right, h}, h, texts[from:to], impl.LogForm)
			}
		}
	}
}

func TestWhichCodeComesFirst(t *testing.T) {
	texts := []string{"a", "b", "c", "d"}
	l := madeLog(texts[:2])
	wrong := impl.Log{Texts: texts[:2], H: headWith(2, "a")}
	two, three, other, two2 := impl.HeadOf(texts[:2]), impl.HeadOf(texts[:3]), headWith(3, "x"), headWith(2, "x")
	all := []impl.Head{two, three, other, two2, {Size: 3}, headWith(201, "x"), headWith(1, "x")}
	for _, c := range []struct {
		what  string
		l     impl.Log
		table []impl.Head
		h     impl.Head
		texts []string
		code  int
	}{
		{"none", l, all, three, texts[2:3], impl.LogGood},
		{"the log alone is wrong", wrong, all, three, texts[2:3], impl.LogForm},
		{"the Root alone has no bytes", l, all, impl.Head{Size: 3}, texts[2:3], impl.LogForm},
		{"the Size alone is another", l, all, two, texts[2:3], impl.LogForm},
		{"form and unsigned: a wrong log", wrong, nil, three, texts[2:3], impl.LogForm},
		{"form and unsigned: no Root", l, all[:4], impl.Head{Size: 3}, texts[2:3], impl.LogForm},
		{"form and unsigned: another Size", l, all[2:], two, texts[2:3], impl.LogForm},
		{"form and back: a wrong log", wrong, all, two, nil, impl.LogForm},
		{"form and back: more than there are", l, all, three, nil, impl.LogForm},
		{"form and back: less than there are", l, all, headWith(1, "x"), nil, impl.LogForm},
		{"form and root: a wrong log", wrong, all, other, texts[2:3], impl.LogForm},
		{"form and root: too great a Size", l, all, headWith(201, "x"), texts[2:3], impl.LogForm},
		{"form, unsigned, back and root", wrong, nil, headWith(201, "y"), nil, impl.LogForm},
		{"unsigned alone", l, []impl.Head{two, other, two2}, three, texts[2:3], impl.LogUnsigned},
		{"unsigned and back: its own head", l, []impl.Head{three, other, two2}, two, nil, impl.LogUnsigned},
		{"unsigned and root: another Root", l, []impl.Head{two, three, two2}, other, texts[2:3], impl.LogUnsigned},
		{"unsigned and root: other texts", l, []impl.Head{two, other}, three, texts[3:], impl.LogUnsigned},
		{"unsigned, back and root", l, []impl.Head{two, three, other}, two2, nil, impl.LogUnsigned},
		{"unsigned: the table is empty", l, nil, three, texts[2:3], impl.LogUnsigned},
		{"unsigned and back: the table is empty", l, []impl.Head{}, two, nil, impl.LogUnsigned},
		{"back alone", l, all, two, nil, impl.LogBack},
		{"back alone: an empty list", l, all, two, []string{}, impl.LogBack},
		{"back and root", l, all, two2, nil, impl.LogBack},
		{"root alone: another Root", l, all, other, texts[2:3], impl.LogRoot},
		{"root alone: other texts", l, all, three, texts[3:], impl.LogRoot},
		{"root alone: an empty text", l, all, three, []string{""}, impl.LogRoot},
	} {
		if _, code := impl.Extend(c.l, c.table, c.h, c.texts); code != c.code {
			t.Errorf("%s: the code %d; want %d", c.what, code, c.code)
		}
		wantExtendLikeModel(t, c.l, c.table, c.h, c.texts)
	}
}

func TestNoTextsForANewLog(t *testing.T) {
	l, none := impl.LogNew(), impl.HeadOf(nil)
	zeroed := headWith(0, "\x00")
	for _, texts := range [][]string{nil, {}, leafTexts(3)[:0]} {
		wantRefused(t, l, []impl.Head{none}, none, texts, impl.LogBack)
		wantRefused(t, l, []impl.Head{zeroed, none}, zeroed, texts, impl.LogBack)
		wantRefused(t, l, []impl.Head{zeroed}, none, texts, impl.LogUnsigned)
		wantRefused(t, l, nil, none, texts, impl.LogUnsigned)
		wantRefused(t, l, nil, zeroed, texts, impl.LogUnsigned)
		wantRefused(t, l, []impl.Head{zeroHead}, zeroHead, texts, impl.LogForm)
		wantRefused(t, l, nil, zeroHead, texts, impl.LogForm)
		wantRefused(t, impl.Log{}, []impl.Head{none}, none, texts, impl.LogForm)
		wantRefused(t, impl.Log{}, []impl.Head{zeroHead}, zeroHead, texts, impl.LogForm)
	}
	one := impl.HeadOf([]string{""}) // a text of no bytes is a text
	wantTaken(t, l, []impl.Head{none, one}, one, []string{""})
	wantRefused(t, impl.Log{}, []impl.Head{none, one}, one, []string{""}, impl.LogForm)
}

// extendHeads: what logs of at most three of the texts a, b are extended with: right heads and wrong ones.
func extendHeads() []impl.Head {
	heads := []impl.Head{zeroHead, {Size: 1}, {Size: 2, Root: "short"}, headWith(-1, "a"), headWith(201, "a"), headWith(0, "a"), headWith(1, "a"), headWith(2, "a"), headWith(3, "a")}
	for _, l := range listsOf([]string{"a", "b"}, 3) {
		h := headByModel(l)
		heads = append(heads, h, impl.Head{Size: h.Size + 1, Root: h.Root})
	}
	return heads
}

// Of all that is small: also each set of codes that apply at once is met.
func TestSmallLogsLikeModel(t *testing.T) {
	lists, heads := listsOf([]string{"a", "b"}, 2), extendHeads()
	met := map[int]int{}
	for _, texts := range lists {
		for _, l := range []impl.Log{madeLog(texts), {Texts: texts}, {Texts: texts, H: headWith(len(texts), "a")}} {
			for _, more := range lists {
				for i, h := range heads {
					for _, table := range [][]impl.Head{nil, {h}, heads, slices.Delete(slices.Clone(heads), i, i+1), {impl.HeadOf(nil), zeroHead}} {
						wantExtendLikeModel(t, l, table, h, more)
						met[reasons(l, table, h, more)]++
					}
				}
			}
		}
	}
	for codes := 0; codes < 32; codes += 2 {
		if met[codes] == 0 {
			t.Errorf("no input has just the codes of the bits %05b", codes)
		}
	}
}

// Promise 11: a log never takes what was not signed.
func TestLogsNeverTakeWhatWasNotSigned(t *testing.T) {
	texts := leafTexts(impl.MaxLeaves)
	for _, from := range []int{0, 1, 3, 64, 199} {
		l := madeLog(texts[:from])
		for _, to := range []int{from + 1, from + 2, 128, 200} {
			if to <= from || to > 200 {
				continue
			}
			h := impl.HeadOf(texts[:to])
			turned := []byte(h.Root)
			turned[to%32] ^= 1
			near := []impl.Head{
				{Size: to, Root: string(turned)}, {Size: to, Root: h.Root[:31]}, {Size: to, Root: h.Root + "\x00"}, {Size: to},
				{Size: to - 1, Root: h.Root}, {Size: to + 1, Root: h.Root}, {Size: 0, Root: h.Root}, impl.HeadOf(texts[:to-1]), l.H, zeroHead,
			}
			wantRefused(t, l, near, h, texts[from:to], impl.LogUnsigned)
			wantRefused(t, l, nil, h, texts[from:to], impl.LogUnsigned)
			wantTaken(t, l, append(near, h), h, texts[from:to])
		}
	}
}

// Promise 11: of what was signed, no other texts are taken.
func TestLogsNeverTakeOtherTexts(t *testing.T) {
	for _, from := range []int{0, 1, 3, 5, 64} {
		for _, to := range []int{from + 1, from + 2, from + 5, 200} {
			texts := leafTexts(to)
			h := impl.HeadOf(texts)
			table := []impl.Head{impl.HeadOf(texts[:from]), h}
			l := madeLog(texts[:from])
			for i := from; i < to; i += 1 + to/20 {
				wantRefused(t, l, table, h, changed(texts, i)[from:], impl.LogRoot)
			}
			turned := slices.Clone(texts[from:])
			slices.Reverse(turned)
			if len(turned) > 1 {
				wantRefused(t, l, table, h, turned, impl.LogRoot)
			}
			for i := 0; i < from; i += 1 + from/5 {
				wantRefused(t, madeLog(changed(texts[:from], i)), table, h, texts[from:], impl.LogRoot)
			}
		}
	}
}

func TestWrongLogsTakeNothing(t *testing.T) {
	for _, l := range wrongLogs() {
		n := len(l.Texts)
		own := headByModel(l.Texts)
		longer := slices.Concat(l.Texts, []string{"x"})
		next := headByModel(longer)
		table := []impl.Head{own, next, l.H, impl.HeadOf(nil), {Size: l.H.Size + 1, Root: next.Root}, {Size: n + 1, Root: rootByModel(longer)}}
		for _, h := range append(table, headWith(n, "y"), headWith(n+1, "y")) {
			for _, texts := range [][]string{nil, {"x"}, {"x", "y"}} {
				wantRefused(t, l, table, h, texts, impl.LogForm)
				wantRefused(t, l, nil, h, texts, impl.LogForm)
			}
		}
	}
}

func TestLogsTakeNoWrongHead(t *testing.T) {
	texts := leafTexts(5)
	l := madeLog(texts[:3])
	h := impl.HeadOf(texts)
	wrong := []impl.Head{zeroHead, {Size: 5}, {Size: 5, Root: h.Root[:31]}, {Size: 5, Root: h.Root + "\x00"}, {Size: 5, Root: impl.HexOf(h.Root)}, {Size: 5, Root: h.Root + h.Root}}
	for _, size := range notHeadSizes {
		wrong = append(wrong, impl.Head{Size: size, Root: h.Root}, impl.Head{Size: size})
	}
	for i, w := range wrong {
		for _, table := range [][]impl.Head{wrong, wrong[:i], nil, {h}, {w}} {
			for _, more := range [][]string{nil, texts[3:], texts[3:4]} {
				wantRefused(t, l, table, w, more, impl.LogForm)
			}
		}
	}
	wantTaken(t, l, append(wrong, h), h, texts[3:]) // wrong heads in the table do no harm
	wantTaken(t, l, append([]impl.Head{h}, wrong...), h, texts[3:])
	wantRefused(t, l, wrong, h, texts[3:], impl.LogUnsigned)
}

func TestLogsProveTheirTexts(t *testing.T) {
	for _, n := range treeSizes {
		for _, texts := range edgeLists(n) {
			l := madeLog(texts)
			for i, s := range texts {
				path, ok := impl.ProveIn(l, i)
				wantProof(t, "ProveIn", n, i, path, ok, inPathByModel(texts, i))
				wantIn(t, s, i, n, path, l.H.Root, true)
				wantIn(t, s+"x", i, n, path, l.H.Root, false)
			}
		}
	}
}

func TestLogsProveTheirBeginnings(t *testing.T) {
	for _, m := range treeSizes {
		for _, texts := range edgeLists(m)[:2] {
			l := madeLog(texts)
			for n := 1; n < m; n++ {
				path, ok := impl.ProveGrown(l, n)
				wantProof(t, "ProveGrown", m, n, path, ok, growPathByModel(texts, n))
				wantGrow(t, n, m, impl.RootOf(texts[:n]), l.H.Root, path, true)
				wantGrow(t, n, m, sumOf("other"), l.H.Root, path, false)
			}
		}
	}
}

func TestPlacesThatLogsDoNotHave(t *testing.T) {
	for _, n := range append([]int{0}, treeSizes...) {
		l := madeLog(leafTexts(n))
		for _, i := range []int{-1, -2, -n - 1, math.MinInt, n, n + 1, 201, 1<<32 + 1, math.MaxInt} {
			wantNoProof(t, l, i)
		}
		wantNoProofGrown(t, l, 0)
		if n > 0 {
			for _, i := range []int{0, n - 1} {
				path, ok := impl.ProveIn(l, i)
				wantProof(t, "ProveIn", n, i, path, ok, inPathByModel(l.Texts, i))
			}
		}
		if n > 1 {
			for _, i := range []int{1, n - 1} {
				path, ok := impl.ProveGrown(l, i)
				wantProof(t, "ProveGrown", n, i, path, ok, growPathByModel(l.Texts, i))
			}
		}
	}
}

// Of one text the path is empty, and right; of none there is no place, and of neither a beginning.
func TestProofsOfFewTexts(t *testing.T) {
	none, one := impl.LogNew(), madeLog([]string{"a"})
	for i := -2; i < 3; i++ {
		wantNoProof(t, none, i)
		wantNoProofGrown(t, one, i)
		if i != 0 {
			wantNoProofIn(t, one, i)
		}
	}
	path, ok := impl.ProveIn(one, 0)
	wantProof(t, "ProveIn", 1, 0, path, ok, nil)
	two := madeLog([]string{"a", "b"})
	path, ok = impl.ProveGrown(two, 1)
	wantProof(t, "ProveGrown", 2, 1, path, ok, []string{leafByModel("b")})
	path, ok = impl.ProveIn(two, 1)
	wantProof(t, "ProveIn", 2, 1, path, ok, []string{leafByModel("a")})
}

func TestProofsAtTheLimitOfLogs(t *testing.T) {
	l := leafTexts(201)
	for _, n := range []int{199, 200, 201} {
		made := impl.Log{Texts: l[:n], H: impl.Head{Size: n, Root: rootByModel(l[:n])}}
		for _, i := range []int{1, n / 2, n - 1} {
			if n > 200 {
				wantNoProof(t, made, i)
				wantNoProof(t, impl.Log{Texts: l[:n]}, i)
				continue
			}
			in, ok := impl.ProveIn(made, i)
			wantProof(t, "ProveIn", n, i, in, ok, inPathByModel(l[:n], i))
			grown, ok := impl.ProveGrown(made, i)
			wantProof(t, "ProveGrown", n, i, grown, ok, growPathByModel(l[:n], i))
		}
	}
}

// logCall is what a log was extended with.
type logCall struct {
	l     impl.Log
	table []impl.Head
	h     impl.Head
	texts []string
}

// logCalls has one of each code, and several of LogForm and LogGood; no two of its texts share memory.
func logCalls() []logCall {
	var texts []string
	for i := range 9 {
		texts = append(texts, strings.Repeat(string(rune('a'+i)), 40))
	}
	own := func(from, to int) []string {
		var l []string
		for _, s := range texts[from:to] {
			l = append(l, strings.Clone(s))
		}
		return l
	}
	head := func(n int) impl.Head { return impl.HeadOf(texts[:n]) }
	table := func() []impl.Head { return []impl.Head{head(5), head(1), headWith(6, "x"), head(9)} }
	return []logCall{
		{impl.LogNew(), table(), head(1), own(0, 1)}, {impl.LogNew(), table(), head(9), own(0, 9)},
		{madeLog(own(0, 3)), table(), head(5), own(3, 5)}, {madeLog(own(0, 4)), table(), head(5), own(4, 5)},
		{madeLog(own(0, 3)), table(), head(5), own(3, 6)}, {impl.Log{Texts: own(0, 3), H: head(5)}, table(), head(5), own(3, 5)},
		{impl.Log{}, table(), head(5), own(0, 5)}, {impl.Log{Texts: make([]string, 300)}, table(), head(5), nil},
		{madeLog(own(0, 3)), table(), head(4), own(3, 4)}, {madeLog(own(0, 5)), table(), head(5), nil},
		{madeLog(own(0, 5)), table(), headWith(6, "x"), own(5, 6)},
	}
}

func TestLogCallsMeetEachCode(t *testing.T) {
	met := [5]int{}
	for _, c := range logCalls() {
		wantExtendLikeModel(t, c.l, c.table, c.h, c.texts)
		_, code := impl.Extend(c.l, c.table, c.h, c.texts)
		met[code]++
	}
	if slices.Contains(met[:], 0) {
		t.Errorf("how often each code was met: %v", met)
	}
}

func TestLogsLeaveTheirListsAlone(t *testing.T) {
	for i, c := range logCalls() {
		want, code := extendByModel(c.l, c.table, c.h, c.texts)
		want = cloneLog(want)
		c.l.Texts = spared(c.l.Texts, "spare", "room", "behind", "the", "log", "of", "texts", "and", "more", "of", "it")
		c.texts, c.table = spared(c.texts, "spare", "room", "behind"), sparedHeads(c.table)
		keptLog, keptTexts, keptTable := slices.Clone(c.l.Texts[:cap(c.l.Texts)]), slices.Clone(c.texts[:cap(c.texts)]), slices.Clone(c.table[:cap(c.table)])
		wantExtend(t, c.l, c.table, c.h, c.texts, want, code)
		impl.LogOk(c.l)
		for at := -1; at <= len(c.l.Texts)+1; at++ {
			impl.ProveIn(c.l, at)
			impl.ProveGrown(c.l, at)
		}
		if !slices.Equal(c.l.Texts[:cap(c.l.Texts)], keptLog) {
			t.Errorf("the log of call %d, or the room behind it, was written into", i)
		}
		if !slices.Equal(c.texts[:cap(c.texts)], keptTexts) {
			t.Errorf("the texts of call %d, or the room behind them, were written into", i)
		}
		if !slices.Equal(c.table[:cap(c.table)], keptTable) {
			t.Errorf("the table of call %d, or the room behind it, was written into", i)
		}
	}
}

// What stands in the room behind a list is none of it.
func TestTheRoomBehindALogIsNotRead(t *testing.T) {
	texts := leafTexts(6)
	h := impl.HeadOf(texts[:5])
	wantLogOk(t, impl.Log{Texts: texts[:4], H: h}, false)
	wantLogOk(t, impl.Log{Texts: texts[:5], H: h}, true)
	l := impl.Log{Texts: texts[:3], H: impl.HeadOf(texts[:3])}
	wantTaken(t, l, []impl.Head{h}, h, texts[3:5]) // the texts stand just there, behind the log
	wantTaken(t, l, []impl.Head{h}, h, slices.Clone(texts[3:5]))
	wantRefused(t, l, []impl.Head{h}, h, texts[3:4], impl.LogForm)
	wantRefused(t, l, []impl.Head{h}[:0], h, texts[3:5], impl.LogUnsigned)
	wantNoProofIn(t, l, 3)
	wantNoProofGrown(t, l, 3)
}

// overwritten fills a list, and the room behind it, with other texts.
func overwritten(l []string) {
	for i := range l[:cap(l)] {
		l[:cap(l)][i] = "other"
	}
}

func TestLogsShareNoList(t *testing.T) {
	for i, c := range logCalls() {
		keptLog, keptTexts := slices.Clone(c.l.Texts), slices.Clone(c.texts)
		first, _ := impl.Extend(c.l, c.table, c.h, c.texts)
		second, _ := impl.Extend(c.l, c.table, c.h, c.texts)
		want := cloneLog(second)
		overwritten(first.Texts)
		if !slices.Equal(c.l.Texts, keptLog) || !slices.Equal(c.texts, keptTexts) {
			t.Errorf("the answer of call %d shares a list with what was given", i)
		}
		overwritten(c.l.Texts)
		overwritten(c.texts)
		if !sameLog(second, want) {
			t.Errorf("the answer of call %d hangs on another one, or on what was given", i)
		}
	}
	news := impl.LogNew()
	overwritten(news.Texts)
	wantLogOk(t, impl.LogNew(), true)
}

func TestLogsShareNoText(t *testing.T) {
	for i, c := range logCalls() {
		c.h.Root, c.l.H.Root = strings.Clone(c.h.Root), strings.Clone(c.l.H.Root)
		given := slices.Concat(c.l.Texts, c.texts, []string{c.h.Root, c.l.H.Root})
		for _, h := range c.table {
			given = append(given, h.Root)
		}
		got, _ := impl.Extend(c.l, c.table, c.h, c.texts)
		parts := append(slices.Clone(got.Texts), got.H.Root)
		for at := range c.l.Texts {
			in, _ := impl.ProveIn(c.l, at)
			grown, _ := impl.ProveGrown(c.l, at)
			parts = slices.Concat(parts, in, grown)
		}
		for _, p := range parts {
			if slices.ContainsFunc(given, func(s string) bool { return within(p, s) }) {
				t.Errorf("%.20q of the answers of call %d is a piece of what was given", p, i)
			}
		}
	}
}

func TestProofsShareNoList(t *testing.T) {
	l := madeLog(leafTexts(13))
	for _, prove := range []func(impl.Log, int) ([]string, bool){impl.ProveIn, impl.ProveGrown} {
		for i := range l.Texts {
			first, _ := prove(l, i)
			second, _ := prove(l, i)
			kept := slices.Clone(second)
			overwritten(first)
			if again, _ := prove(l, i); !slices.Equal(second, kept) || !slices.Equal(again, kept) {
				t.Errorf("the path of %d hangs on another one", i)
			}
		}
	}
	wantLogOk(t, l, true)
}
