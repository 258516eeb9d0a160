package tests

import (
	"bytes"
	"encoding/binary"
	"math"
	"slices"
	"strings"
	"testing"

	"loop.example/g00233/impl"
)

// notMirrors: those beside the limits, and those that come to a right one in fewer bits.
var notMirrors = []int{-1, -2, -20, -21, math.MinInt, math.MinInt + 1, 21, 22, 128, 255, 256, 257, 1 << 32, 1<<32 + 1, math.MaxInt - 1, math.MaxInt}

// notKinds: those beside the limits, and those that come to a right one in fewer bits.
var notKinds = []int{0, 4, -1, -2, -3, 5, 128, 129, 256, 257, 258, 259, 1<<32 + 1, 1<<32 + 3, math.MinInt, math.MinInt + 1, math.MaxInt}

var msgKinds = []int{impl.MsgHead, impl.MsgAsk, impl.MsgTexts}

// headMsg, askMsg and textsMsg go from 3 to 17; what stands in them may be wrong.
func headMsg(h impl.Head) impl.Msg { return impl.Msg{Kind: impl.MsgHead, From: 3, To: 17, H: h} }

func askMsg(h impl.Head, n int) impl.Msg {
	return impl.Msg{Kind: impl.MsgAsk, From: 3, To: 17, H: h, N: n}
}

func textsMsg(h impl.Head, n int, texts []string) impl.Msg {
	return impl.Msg{Kind: impl.MsgTexts, From: 3, To: 17, H: h, N: n, Texts: texts}
}

func sentBetween(m impl.Msg, from, to int) impl.Msg {
	m.From, m.To = from, to
	return m
}

func cloneMsg(m impl.Msg) impl.Msg {
	m.Texts = slices.Clone(m.Texts)
	return m
}

func sameMsg(a, b impl.Msg) bool {
	return a.Kind == b.Kind && a.From == b.From && a.To == b.To && a.H == b.H && a.N == b.N && slices.Equal(a.Texts, b.Texts)
}

// isMsgByModel counts the texts up to the head, place by place.
func isMsgByModel(m impl.Msg) bool {
	if m.From < 0 || m.From > 20 || m.To < 0 || m.To > 20 || m.From == m.To {
		return false
	}
	if m.H.Size < 0 || m.H.Size > 200 || len(m.H.Root) != 32 || m.N < 0 || m.N > 200 {
		return false
	}
	wanted := 0
	for at := m.N; at < m.H.Size; at++ {
		wanted++
	}
	return m.Kind == 1 && m.N == 0 && len(m.Texts) == 0 ||
		m.Kind == 2 && wanted > 0 && len(m.Texts) == 0 ||
		m.Kind == 3 && wanted > 0 && len(m.Texts) == wanted
}

// laidOut lays a word out as if it were right.
func laidOut(m impl.Msg) []byte {
	return []byte(formed(m.Kind, m.From, m.To, m.H.Size, m.H.Root, m.N, m.Texts))
}

// getMsgByModel reads forms that are not the shortest, too, and puts what it read again.
func getMsgByModel(b []byte) (impl.Msg, bool) {
	r := strings.NewReader(string(b))
	var nums [6]uint64 // Kind, From, To, Size, N, and how many texts
	var root string
	for i := range nums {
		if i == 4 {
			root, _ = textByModel(r)
		}
		nums[i], _ = binary.ReadUvarint(r)
	}
	m := impl.Msg{Kind: int(nums[0]), From: int(nums[1]), To: int(nums[2]), H: impl.Head{Size: int(nums[3]), Root: root}, N: int(nums[4])}
	for range min(nums[5], 201) {
		s, _ := textByModel(r)
		m.Texts = append(m.Texts, s)
	}
	if !isMsgByModel(m) || !bytes.Equal(laidOut(m), b) {
		return impl.Msg{}, false
	}
	return m, true
}

func wantMsgOk(t *testing.T, m impl.Msg, want bool) {
	t.Helper()
	if got := impl.MsgOk(m); got != want {
		t.Errorf("MsgOk of kind %d from %d to %d, the head %d, %x, N %d, %d texts: %v", m.Kind, m.From, m.To, m.H.Size, m.H.Root, m.N, len(m.Texts), got)
	}
}

func wantGot(t *testing.T, b []byte, want impl.Msg) {
	t.Helper()
	if got, ok := impl.GetMsg(b); !ok || !sameMsg(got, want) {
		t.Errorf("GetMsg of %.100x = %.200v, %v; want %.200v", b, got, ok, want)
	}
}

func wantNoMsg(t *testing.T, b []byte) {
	t.Helper()
	if got, ok := impl.GetMsg(b); ok || !sameMsg(got, impl.Msg{}) {
		t.Errorf("GetMsg of %.100x = %.200v, %v; want the zero one and false", b, got, ok)
	}
}

// wantRight: it is MsgOk, and comes back of just these bytes.
func wantRight(t *testing.T, m impl.Msg, b []byte) {
	t.Helper()
	wantMsgOk(t, m, true)
	if got := impl.PutMsg(m); !bytes.Equal(got, b) {
		t.Errorf("PutMsg of kind %d, N %d, %d texts = %.100x; want %.100x", m.Kind, m.N, len(m.Texts), got, b)
	}
	wantGot(t, b, m)
}

// wantWrong: it is not MsgOk, it has no bytes, and bytes laid out as if it were are none of a word.
func wantWrong(t *testing.T, m impl.Msg) {
	t.Helper()
	wantMsgOk(t, m, false)
	if got := impl.PutMsg(m); len(got) != 0 {
		t.Errorf("PutMsg of kind %d from %d to %d, the head %d, %x, N %d, %d texts = %.100x", m.Kind, m.From, m.To, m.H.Size, m.H.Root, m.N, len(m.Texts), got)
	}
	wantNoMsg(t, laidOut(m))
	wantNoMsg(t, impl.PutMsg(m))
}

func wantMsgLikeModel(t *testing.T, m impl.Msg) {
	t.Helper()
	if isMsgByModel(m) {
		wantRight(t, m, laidOut(m))
		return
	}
	wantWrong(t, m)
}

func wantGotLikeModel(t *testing.T, b []byte) {
	t.Helper()
	if want, ok := getMsgByModel(b); ok {
		wantGot(t, b, want)
		return
	}
	wantNoMsg(t, b)
}

// rightMsgs: words of each kind, of small heads and of great ones.
func rightMsgs() []impl.Msg {
	two, many := []string{"ab", ""}, leafTexts(200)
	h, great := headByModel(two), headByModel(many)
	return []impl.Msg{
		headMsg(headByModel(nil)), headMsg(h), sentBetween(headMsg(great), 20, 0),
		askMsg(h, 0), askMsg(h, 1), sentBetween(askMsg(great, 0), 0, 20), askMsg(great, 100), askMsg(great, 199),
		textsMsg(h, 0, two), textsMsg(h, 1, two[1:]), sentBetween(textsMsg(headWith(3, "\xff"), 1, []string{"\x80", "x\x00"}), 20, 19),
		textsMsg(great, 0, many), textsMsg(great, 197, many[197:]), textsMsg(headWith(1, "\x00"), 0, []string{strings.Repeat("z", 16384)}),
	}
}

func TestWordsByHand(t *testing.T) {
	root := strings.Repeat("r", 32)
	h, great := impl.Head{Size: 3, Root: root}, impl.Head{Size: 200, Root: root}
	wantRight(t, headMsg(impl.Head{Root: root}), []byte("\x01\x03\x11\x00\x20"+root+"\x00\x00"))
	wantRight(t, headMsg(h), []byte("\x01\x03\x11\x03\x20"+root+"\x00\x00"))
	wantRight(t, headMsg(great), []byte("\x01\x03\x11\xc8\x01\x20"+root+"\x00\x00"))
	wantRight(t, askMsg(h, 0), []byte("\x02\x03\x11\x03\x20"+root+"\x00\x00"))
	wantRight(t, askMsg(h, 2), []byte("\x02\x03\x11\x03\x20"+root+"\x02\x00"))
	wantRight(t, sentBetween(askMsg(great, 199), 20, 0), []byte("\x02\x14\x00\xc8\x01\x20"+root+"\xc7\x01\x00"))
	wantRight(t, textsMsg(h, 2, []string{"c"}), []byte("\x03\x03\x11\x03\x20"+root+"\x02\x01\x01c"))
	wantRight(t, textsMsg(h, 1, []string{"", "bc"}), []byte("\x03\x03\x11\x03\x20"+root+"\x01\x02\x00\x02bc"))
	wantRight(t, sentBetween(textsMsg(h, 0, []string{"a", "", "a"}), 0, 1), []byte("\x03\x00\x01\x03\x20"+root+"\x00\x03\x01a\x00\x01a"))
	wantRight(t, textsMsg(great, 199, []string{"z"}), []byte("\x03\x03\x11\xc8\x01\x20"+root+"\xc7\x01\x01\x01z"))
	wantRight(t, textsMsg(great, 0, make([]string, 200)), []byte("\x03\x03\x11\xc8\x01\x20"+root+"\x00\xc8\x01"+strings.Repeat("\x00", 200)))
	wantRight(t, textsMsg(great, 72, make([]string, 128)), []byte("\x03\x03\x11\xc8\x01\x20"+root+"\x48\x80\x01"+strings.Repeat("\x00", 128)))
}

func TestTheKindsOfWords(t *testing.T) {
	if !slices.Equal(msgKinds, []int{1, 2, 3}) {
		t.Errorf("the kinds are %v", msgKinds)
	}
	for _, m := range rightMsgs() {
		for _, kind := range notKinds {
			other := m
			other.Kind = kind
			wantWrong(t, other)
		}
		for _, kind := range msgKinds {
			other := m
			other.Kind = kind
			wantMsgLikeModel(t, other)
		}
	}
	wantWrong(t, impl.Msg{})
}

func TestWordsComeBackOfTheirBytes(t *testing.T) {
	for _, m := range rightMsgs() {
		wantRight(t, m, laidOut(m))
	}
	for _, size := range append([]int{0}, treeSizes...) {
		for _, texts := range edgeLists(size) {
			h := impl.HeadOf(texts)
			wantRight(t, headMsg(h), laidOut(headMsg(h)))
			for _, n := range []int{0, 1, size / 2, size - 2, size - 1} {
				if n < 0 || n >= size {
					continue
				}
				wantRight(t, askMsg(h, n), laidOut(askMsg(h, n)))
				wantRight(t, textsMsg(h, n, texts[n:]), laidOut(textsMsg(h, n, texts[n:])))
			}
		}
	}
	for _, s := range someTexts {
		m := textsMsg(headWith(2, "\x80"), 0, []string{s, s})
		wantRight(t, m, laidOut(m))
	}
}

// It is not asked whose head it is: texts are held against it by who takes them.
func TestWordsOfAnyRoot(t *testing.T) {
	for _, letter := range []string{"\x00", "a", "\x80", "\xff"} {
		for _, m := range []impl.Msg{headMsg(headWith(0, letter)), askMsg(headWith(7, letter), 5), textsMsg(headWith(7, letter), 5, []string{"x", "y"})} {
			wantRight(t, m, laidOut(m))
		}
	}
}

func TestWhoSpeaksToWhom(t *testing.T) {
	h := headWith(2, "a")
	for _, m := range []impl.Msg{headMsg(h), askMsg(h, 1), textsMsg(h, 1, []string{"b"})} {
		for from := -2; from <= 23; from++ {
			for to := -2; to <= 23; to++ {
				other := sentBetween(m, from, to)
				wantMsgOk(t, other, from >= 0 && from <= 20 && to >= 0 && to <= 20 && from != to)
				wantMsgLikeModel(t, other)
			}
		}
		for _, other := range notMirrors {
			for _, id := range []int{0, 1, 20, other, other + 1} {
				wantWrong(t, sentBetween(m, id, other))
				wantWrong(t, sentBetween(m, other, id))
			}
		}
	}
}

func TestWordsOfWrongHeads(t *testing.T) {
	wrong := wrongHeads()
	for _, size := range []int{0, 1, 2, 199, 200} {
		for _, n := range []int{0, 1, 30, 31, 33, 34, 64, 256, 288} {
			wrong = append(wrong, impl.Head{Size: size, Root: strings.Repeat("r", n)})
		}
	}
	for _, h := range wrong {
		wantWrong(t, headMsg(h))
		for _, n := range []int{0, 1, h.Size - 1, 199} {
			wantWrong(t, askMsg(h, n))
			for _, count := range []int{0, 1, 200, 201, h.Size - n} {
				if count >= 0 && count < 1000 {
					wantWrong(t, textsMsg(h, n, manyTexts(count)))
				}
			}
		}
	}
}

// Of a head of Size 0 it may be heard, but there is nothing to ask for, and nothing to hand over.
func TestWordsOfHeadsOfNoTexts(t *testing.T) {
	for _, h := range []impl.Head{impl.HeadOf(nil), headWith(0, "a")} {
		wantRight(t, headMsg(h), laidOut(headMsg(h)))
		for _, n := range []int{-1, 0, 1, 200, 201, math.MinInt, math.MaxInt} {
			wantWrong(t, askMsg(h, n))
			for _, texts := range [][]string{nil, {}, {""}, {"a"}, {"a", "b"}, manyTexts(200)} {
				wantWrong(t, textsMsg(h, n, texts))
			}
		}
	}
}

// msgPlaces: places at the limits, and those that come to a right one in fewer bits.
func msgPlaces(size int) []int {
	return []int{-1, 0, 1, size - 1, size, size + 1, 199, 200, 201, -2, -size, -200, 128, 255, 256, 257, 1 << 32, 1<<32 + 1, math.MinInt, math.MinInt + 1, math.MinInt + size, math.MaxInt, math.MaxInt - 1}
}

func TestPlacesOfWords(t *testing.T) {
	for _, size := range []int{0, 1, 2, 3, 127, 128, 199, 200} {
		h := headWith(size, "h")
		for _, n := range msgPlaces(size) {
			m := headMsg(h)
			m.N = n
			wantMsgOk(t, m, n == 0)
			wantMsgLikeModel(t, m)
			there := n >= 0 && n < size
			wantMsgOk(t, askMsg(h, n), there)
			wantMsgLikeModel(t, askMsg(h, n))
			counts := []int{0, 1, 2, size, 199, 200, 201}
			if there {
				counts = append(counts, size-n-1, size-n, size-n+1)
			}
			for _, count := range counts {
				m := textsMsg(h, n, manyTexts(count))
				wantMsgOk(t, m, there && count == size-n)
				wantMsgLikeModel(t, m)
			}
		}
	}
}

func TestHowManyTextsWordsHave(t *testing.T) {
	for _, size := range []int{1, 2, 3, 4, 100, 128, 199, 200} {
		h := headWith(size, "h")
		for n := range size {
			all := manyTexts(size - n + 1)
			wantWrong(t, textsMsg(h, n, all))
			wantRight(t, textsMsg(h, n, all[:size-n]), laidOut(textsMsg(h, n, all[:size-n])))
			wantWrong(t, textsMsg(h, n, all[:size-n-1]))
		}
	}
	wantWrong(t, textsMsg(headWith(2, "h"), 2, nil)) // from the end on there are none, and none are no answer
	wantWrong(t, textsMsg(headWith(200, "h"), 200, []string{}))
	wantWrong(t, textsMsg(headWith(200, "h"), 0, manyTexts(200+256)))
	wantWrong(t, textsMsg(headWith(200, "h"), -1, manyTexts(201)))
	wantWrong(t, textsMsg(headWith(2, "h"), -198, manyTexts(200)))
}

func TestTextsOfMsgTextsAlone(t *testing.T) {
	for _, size := range []int{0, 1, 2, 200} {
		h := headWith(size, "h")
		for _, n := range []int{0, 1, size - 1, size} {
			for _, texts := range [][]string{{""}, {"a"}, {"a", "b"}, make([]string, size), manyTexts(max(size-n, 1)), manyTexts(201)} {
				if len(texts) == 0 {
					continue
				}
				for _, kind := range []int{impl.MsgHead, impl.MsgAsk} {
					m := textsMsg(h, n, texts)
					m.Kind = kind
					wantWrong(t, m)
				}
			}
		}
	}
}

// An empty list and nil are the same.
func TestWordsOfEmptyLists(t *testing.T) {
	h := headWith(2, "h")
	for _, m := range []impl.Msg{headMsg(h), askMsg(h, 1)} {
		b := laidOut(m)
		for _, texts := range [][]string{nil, {}, make([]string, 0, 5), []string{"spare"}[:0]} {
			m.Texts = texts
			wantRight(t, m, b)
		}
	}
}

// Each limit by itself and with the others, in small and at the ends.
func TestAllSmallWords(t *testing.T) {
	heads := []impl.Head{zeroHead, headWith(-1, "a"), headWith(0, "a"), headWith(1, "a"), headWith(2, "b"), headWith(3, "c"), {Size: 2, Root: strings.Repeat("r", 31)}, headWith(201, "a")}
	var right [5]int
	for kind := range 5 {
		for _, ids := range [][2]int{{0, 1}, {20, 0}, {0, 0}, {-1, 0}, {0, 21}} {
			for _, h := range heads {
				for n := -1; n <= 4; n++ {
					for _, texts := range listsOf([]string{"", "x"}, 4) {
						m := impl.Msg{Kind: kind, From: ids[0], To: ids[1], H: h, N: n, Texts: texts}
						wantMsgLikeModel(t, m)
						if impl.MsgOk(m) {
							right[kind]++
						}
					}
				}
			}
		}
	}
	// Four right heads of 0 to 3 texts; 1, 2 and 3 places; 2, 4 and 2, 8, 4 and 2 lists; two pairs who speak.
	if right != [5]int{0, 2 * 4, 2 * 6, 2 * (2 + 6 + 14), 0} {
		t.Errorf("how many were right: %v", right)
	}
}

func TestBytesOfNoWord(t *testing.T) {
	for _, b := range []string{"", "\x00", "\x01", "\x80", "\xff", strings.Repeat("\x00", 40), strings.Repeat("\x01", 40), strings.Repeat("\x80", 40), strings.Repeat("\xff", 1000)} {
		wantNoMsg(t, []byte(b))
	}
	wantNoMsg(t, nil)
	for _, m := range rightMsgs() {
		b := laidOut(m)
		for n := range b {
			if n < 300 || n > len(b)-300 {
				wantNoMsg(t, b[:n])
				wantNoMsg(t, bytes.Clone(b[:n]))
			}
		}
		for _, more := range []string{"\x00", "\x01", "\x80", "\xff", "\x00\x00", "\x01a", string(b)} {
			wantNoMsg(t, append(bytes.Clone(b), more...))
			wantNoMsg(t, append([]byte(more), b...))
		}
		wantNoMsg(t, b[1:])
	}
}

// Each byte turned into each other one: it is what the model says, which is seldom a word, and then another one.
func TestTurnedWords(t *testing.T) {
	h := headWith(3, "\x20")
	words := 0
	for _, m := range []impl.Msg{headMsg(h), askMsg(h, 1), textsMsg(h, 1, []string{"b", "\x01\x00"}), textsMsg(headWith(200, "\x01"), 198, []string{"", "\x00"})} {
		b := laidOut(m)
		for at := range b {
			for c := range 256 {
				turned := bytes.Clone(b)
				turned[at] = byte(c)
				wantGotLikeModel(t, turned)
				if other, ok := impl.GetMsg(turned); ok {
					words++
					if sameMsg(other, m) != (byte(c) == b[at]) {
						t.Errorf("%x is not the word %x", turned, b)
					}
				}
			}
		}
	}
	if words < 4*32*256 { // a Root may be any
		t.Errorf("%d of them were words", words)
	}
}

// A byte less or more in the midst of a word.
func TestWordsWithAByteMoreOrLess(t *testing.T) {
	for _, m := range []impl.Msg{headMsg(headWith(3, "\x00")), askMsg(headWith(3, "\x01"), 1), textsMsg(headWith(3, "\x02"), 1, []string{"\x00", ""})} {
		b := laidOut(m)
		for at := range len(b) + 1 {
			for c := range 256 {
				wantGotLikeModel(t, slices.Insert(bytes.Clone(b), at, byte(c)))
			}
			if at < len(b) {
				wantGotLikeModel(t, slices.Delete(bytes.Clone(b), at, at+1))
			}
		}
	}
}

func TestNumbersOfAWordInTheirShortestForm(t *testing.T) {
	root := strings.Repeat("r", 32)
	right := []any{3, 1, 2, 3, 32, []byte(root), 1, 2, 1, []byte("b"), 0}
	wantGot(t, []byte(formed(right...)), impl.Msg{Kind: 3, From: 1, To: 2, H: impl.Head{Size: 3, Root: root}, N: 1, Texts: []string{"b", ""}})
	for i, part := range right {
		n, ok := part.(int)
		if !ok {
			continue
		}
		form := []byte(formed(n))
		for range 10 {
			form[len(form)-1] += 128
			form = append(form, 0)
			other := slices.Clone(right)
			other[i] = form
			wantNoMsg(t, []byte(formed(other...)))
		}
	}
	great := []any{2, 1, 2, 200, 32, []byte(root), 199, 0}
	wantGot(t, []byte(formed(great...)), impl.Msg{Kind: 2, From: 1, To: 2, H: impl.Head{Size: 200, Root: root}, N: 199})
	for _, i := range []int{3, 6} {
		other := slices.Clone(great)
		other[i] = longer(great[i].(int))
		wantNoMsg(t, []byte(formed(other...)))
	}
}

// Each number turned so that the word is not right, and into those that come to it in fewer bits.
func TestTurnedNumbersOfAWord(t *testing.T) {
	root := strings.Repeat("r", 32)
	for i, wrong := range map[int][]int{
		0: {0, 1, 2, 4, 5, 131, 259, 1<<32 + 3},
		1: {2, 21, 22, 127, 128, 129, 257, 1<<32 + 1, -1},
		2: {1, 21, 22, 127, 128, 130, 258, 1<<32 + 2, -1},
		3: {0, 1, 2, 4, 5, 131, 200, 201, 259, impl.MaxNum, impl.MaxNum + 1, 1<<32 + 3, -1},
		4: {0, 31, 33, 160, 288, impl.MaxNum, 1<<32 + 32, -1},
		6: {0, 2, 3, 4, 129, 200, 201, 257, impl.MaxNum, 1<<32 + 1, -1},
		7: {0, 1, 3, 4, 130, 200, 201, 258, impl.MaxNum, 1<<32 + 2, -1},
		8: {0, 2, 3, 129, 257, impl.MaxNum, 1<<32 + 1, -1},
	} {
		for _, n := range wrong {
			parts := []any{3, 1, 2, 3, 32, []byte(root), 1, 2, 1, []byte("b"), 0}
			parts[i] = n
			wantNoMsg(t, []byte(formed(parts...)))
		}
	}
}

// msgCalls: right words and wrong ones, each text with memory of its own, with room behind each list.
func msgCalls() []impl.Msg {
	own := func(count int) []string {
		var l []string
		for i := range count {
			l = append(l, strings.Repeat(string(rune('a'+i)), 40+i))
		}
		return spared(l, "spare", "room", "behind")
	}
	head := func(size int) impl.Head {
		return impl.Head{Size: size, Root: strings.Clone(headWith(size, "h").Root)}
	}
	return []impl.Msg{
		textsMsg(head(3), 0, own(3)), textsMsg(head(9), 2, own(7)), textsMsg(head(200), 199, own(1)), textsMsg(head(20), 0, own(20)),
		{Kind: impl.MsgHead, From: 1, To: 2, H: head(4), Texts: own(0)}, {Kind: impl.MsgAsk, From: 1, To: 2, H: head(4), N: 3, Texts: own(0)},
		textsMsg(head(3), 0, own(2)), textsMsg(head(3), 0, own(4)), textsMsg(head(201), 0, own(3)), {Kind: impl.MsgAsk, From: 1, To: 2, H: head(4), N: 3, Texts: own(1)},
	}
}

func TestWordsLeaveTheirListsAlone(t *testing.T) {
	for i, m := range msgCalls() {
		kept := slices.Clone(m.Texts[:cap(m.Texts)])
		wantMsgLikeModel(t, m)
		if !slices.Equal(m.Texts[:cap(m.Texts)], kept) {
			t.Errorf("the texts of word %d, or the room behind them, were written into", i)
		}
		b := roomy(string(laidOut(m)), "\x00\x01a\x00spare room")
		whole := wholeOf(b)
		wantGotLikeModel(t, b)
		if wholeOf(b) != whole {
			t.Errorf("the bytes of word %d, or the room behind them, were written into", i)
		}
	}
}

func TestWordsShareNothing(t *testing.T) {
	for i, m := range msgCalls() {
		given := cloneMsg(m)
		put := impl.PutMsg(m)
		kept := bytes.Clone(put)
		spoilt(impl.PutMsg(m))
		if !sameMsg(m, given) || !bytes.Equal(put, kept) {
			t.Errorf("the bytes of word %d share memory with the word, or with those of another call", i)
		}
		overwritten(m.Texts)
		if !bytes.Equal(put, kept) {
			t.Errorf("the bytes of word %d hang on the word", i)
		}
		b := laidOut(given)
		first, _ := impl.GetMsg(b)
		second, ok := impl.GetMsg(b)
		want := impl.Msg{}
		if ok {
			want = given
		}
		overwritten(first.Texts)
		if !bytes.Equal(b, laidOut(given)) || !sameMsg(second, want) {
			t.Errorf("word %d shares memory with its bytes, or with that of another call", i)
		}
		spoilt(b)
		if !sameMsg(second, want) {
			t.Errorf("word %d hangs on its bytes", i)
		}
	}
}

// What stands in the room behind a list is none of it.
func TestTheRoomBehindAWordIsNotRead(t *testing.T) {
	texts := leafTexts(5)
	h := headByModel(texts)
	for n := range texts {
		for end := n; end <= 5; end++ {
			m := textsMsg(h, n, texts[n:end])
			wantMsgOk(t, m, end == 5)
			wantMsgLikeModel(t, m)
		}
	}
	b := laidOut(textsMsg(h, 0, texts))
	for n := range b {
		wantNoMsg(t, b[:n])
	}
	wantGot(t, append(b, "more"...)[:len(b)], textsMsg(h, 0, texts))
}
