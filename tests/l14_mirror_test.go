package tests

import (
	"bytes"
	"fmt"
	"math"
	"slices"
	"strings"
	"testing"

	"loop.example/g00233/impl"
)

var noTexts = impl.Head{Root: sumOf("")}

// mirrorOf is mirror 17, to whom words of 3 go: it has a commit up to each of these ends, nothing of it sure, and its log's head as Best; with all that was signed for it.
func mirrorOf(texts []string, ends ...int) (impl.Mirror, []impl.Head) {
	st, table := storeOf(texts, ends...)
	return impl.Mirror{Id: 17, St: st, Best: st.L.H}, table
}

// signedToo gives a table of its own: no other one is written into.
func signedToo(table []impl.Head, more ...impl.Head) []impl.Head { return slices.Concat(table, more) }

func withBest(m impl.Mirror, h impl.Head) impl.Mirror {
	m.Best = h
	return m
}

func withId(m impl.Mirror, id int) impl.Mirror {
	m.Id = id
	return m
}

func allSure(m impl.Mirror) impl.Mirror {
	m.St = withSure(m.St, len(m.St.Bytes))
	return m
}

func cloneMirror(m impl.Mirror) impl.Mirror {
	return impl.Mirror{Id: m.Id, St: cloneStore(m.St), Best: m.Best}
}

func sameMirror(a, b impl.Mirror) bool {
	return a.Id == b.Id && sameStore(a.St, b.St) && a.Best == b.Best
}

// backMsg is what 17 says to 3.
func backMsg(m impl.Msg) impl.Msg { return sentBetween(m, 17, 3) }

func isMirrorByModel(m impl.Mirror, table []impl.Head) bool {
	for _, h := range []impl.Head{m.Best, m.St.L.H} {
		if h != noTexts && !isSignedByModel(table, h) {
			return false
		}
	}
	return m.Id >= 0 && m.Id <= 20 && isStoreByModel(m.St) && m.Best.Size >= 0 && m.Best.Size <= 200 && len(m.Best.Root) == 32
}

// sayByModel gives the words of a mirror that is right, or not, to whomever it may speak to.
func sayByModel(m impl.Mirror, table []impl.Head, w impl.Msg) []impl.Msg {
	if !isMirrorByModel(m, table) || !isMsgByModel(w) {
		return nil
	}
	return []impl.Msg{w}
}

func gossipByModel(m impl.Mirror, table []impl.Head, to int) []impl.Msg {
	return sayByModel(m, table, sentBetween(headMsg(m.Best), m.Id, to))
}

// askByModel: what is asked from the head's Size on, or from behind it, is no word.
func askByModel(m impl.Mirror, table []impl.Head, to int) []impl.Msg {
	return sayByModel(m, table, sentBetween(askMsg(m.Best, len(m.St.L.Texts)), m.Id, to))
}

func hearByModel(m impl.Mirror, table []impl.Head, w impl.Msg) (impl.Mirror, []impl.Msg) {
	if !isMirrorByModel(m, table) || !isMsgByModel(w) || w.To != m.Id {
		return m, nil
	}
	texts := m.St.L.Texts
	greater := impl.BestHead([]impl.Head{m.Best, w.H})
	switch w.Kind {
	case impl.MsgHead:
		if isSignedByModel(table, w.H) {
			m.Best = greater
			return m, askByModel(m, table, w.From)
		}
	case impl.MsgAsk:
		for end := range len(texts) + 1 {
			if headByModel(texts[:end]) == w.H {
				return m, sayByModel(m, table, sentBetween(textsMsg(w.H, w.N, texts[w.N:end]), m.Id, w.From))
			}
		}
	case impl.MsgTexts:
		st, code := takeByModel(m.St, table, w.H, w.Texts)
		if w.N == len(texts) && code == impl.LogGood {
			return impl.Mirror{Id: m.Id, St: st, Best: greater}, nil
		}
	}
	return m, nil
}

func crashByModel(m impl.Mirror, table []impl.Head, keep int) (impl.Mirror, int) {
	if !isMirrorByModel(m, table) {
		return m, -1
	}
	st, count := openByModel(table, fallByModel(m.St, keep))
	return impl.Mirror{Id: m.Id, St: st, Best: st.L.H}, count
}

func wantMirror(t *testing.T, what string, got, want impl.Mirror) {
	t.Helper()
	if got.Id != want.Id || got.Best != want.Best {
		t.Errorf("%s: the mirror %d with the best head %d, %x; want %d, %d, %x", what, got.Id, got.Best.Size, got.Best.Root, want.Id, want.Best.Size, want.Best.Root)
	}
	wantStore(t, what, got.St, want.St)
}

func wantMirrorOk(t *testing.T, what string, m impl.Mirror, table []impl.Head, want bool) {
	t.Helper()
	if got := impl.MirrorOk(m, table); got != want {
		t.Errorf("%s: MirrorOk of %d, %d texts, %d bytes, the best head %d, %x, %d heads signed: %v", what, m.Id, len(m.St.L.Texts), len(m.St.Bytes), m.Best.Size, m.Best.Root, len(table), got)
	}
}

// shortly tells words without their texts, which may be many.
func shortly(words []impl.Msg) string {
	var b strings.Builder
	for _, w := range words {
		fmt.Fprintf(&b, "{kind %d from %d to %d, the head %d, %x, N %d, %d texts}", w.Kind, w.From, w.To, w.H.Size, w.H.Root, w.N, len(w.Texts))
	}
	return b.String()
}

func wantSaid(t *testing.T, what string, said []impl.Msg, want ...impl.Msg) {
	t.Helper()
	if !slices.EqualFunc(said, want, sameMsg) {
		t.Errorf("%s: said %s; want %s", what, shortly(said), shortly(want))
	}
	for _, w := range said {
		wantMsgOk(t, w, true)
	}
}

// wantHear gives the mirror that heard it: if it was right, it still is.
func wantHear(t *testing.T, what string, m impl.Mirror, table []impl.Head, w impl.Msg, want impl.Mirror, words ...impl.Msg) impl.Mirror {
	t.Helper()
	got, said := impl.Hear(m, table, w)
	wantMirror(t, what+": Hear", got, want)
	wantSaid(t, what+": Hear", said, words...)
	wantMirrorOk(t, what+": Hear", got, table, isMirrorByModel(m, table))
	return got
}

// wantDeaf: the same mirror, and nothing.
func wantDeaf(t *testing.T, what string, m impl.Mirror, table []impl.Head, w impl.Msg) {
	t.Helper()
	wantHear(t, what, m, table, w, m)
}

func wantHearLikeModel(t *testing.T, what string, m impl.Mirror, table []impl.Head, w impl.Msg) impl.Mirror {
	t.Helper()
	want, words := hearByModel(m, table, w)
	return wantHear(t, what, m, table, w, want, words...)
}

func wantCrash(t *testing.T, what string, m impl.Mirror, table []impl.Head, keep int, want impl.Mirror, count int) impl.Mirror {
	t.Helper()
	got, gotCount := impl.CrashMirror(m, table, keep)
	if gotCount != count {
		t.Errorf("%s: CrashMirror keeping %d gives %d commits; want %d", what, keep, gotCount, count)
	}
	wantMirror(t, what+": CrashMirror", got, want)
	wantMirrorOk(t, what+": CrashMirror", got, table, isMirrorByModel(m, table))
	return got
}

func wantCrashLikeModel(t *testing.T, what string, m impl.Mirror, table []impl.Head, keep int) impl.Mirror {
	t.Helper()
	want, count := crashByModel(m, table, keep)
	return wantCrash(t, what, m, table, keep, want, count)
}

func wantSync(t *testing.T, what string, m impl.Mirror, table []impl.Head, want impl.Mirror) impl.Mirror {
	t.Helper()
	got := impl.SyncMirror(m, table)
	wantMirror(t, what+": SyncMirror", got, want)
	wantMirrorOk(t, what+": SyncMirror", got, table, isMirrorByModel(m, table))
	return got
}

// wantRightMirror: it is MirrorOk, and gossips.
func wantRightMirror(t *testing.T, what string, m impl.Mirror, table []impl.Head) {
	t.Helper()
	wantMirrorOk(t, what, m, table, true)
	to := (m.Id + 7) % 21
	wantSaid(t, what+": Gossip", impl.Gossip(m, table, to), sentBetween(headMsg(m.Best), m.Id, to))
	wantSaid(t, what+": AskFor", impl.AskFor(m, table, to), askByModel(m, table, to)...)
	wantSync(t, what, m, table, allSure(m))
	wantCrashLikeModel(t, what, m, table, 0)
}

// wantWrongMirror: it is not MirrorOk, it hears and says nothing, and stays as it is.
func wantWrongMirror(t *testing.T, what string, m impl.Mirror, table []impl.Head) {
	t.Helper()
	wantMirrorOk(t, what, m, table, false)
	more := append(slices.Clone(m.St.L.Texts), "more")
	all := signedToo(table, headByModel(more))
	last := len(more) - 1
	for _, w := range []impl.Msg{
		headMsg(headWith(200, "h")), headMsg(headByModel(more)), askMsg(m.St.L.H, 0), askMsg(headByModel(more[:last]), 0),
		textsMsg(headByModel(more), last, more[last:]), textsMsg(headByModel(more), 0, more),
	} {
		wantDeaf(t, what, m, table, sentBetween(w, 3, m.Id))
		if !isMirrorByModel(m, all) {
			wantDeaf(t, what, m, all, sentBetween(w, 3, m.Id))
		}
	}
	for _, to := range []int{0, 3, 20, m.Id, -1, 21} {
		wantSaid(t, what+": Gossip", impl.Gossip(m, table, to))
		wantSaid(t, what+": AskFor", impl.AskFor(m, table, to))
	}
	wantSync(t, what, m, table, m)
	for _, keep := range []int{-1, 0, 1, math.MaxInt} {
		wantCrash(t, what, m, table, keep, m, -1)
	}
}

func TestMirrorsByHand(t *testing.T) {
	texts := []string{"a", "b", "c"}
	three := impl.HeadOf(texts)
	table := []impl.Head{impl.HeadOf(texts[:2]), three}
	m := impl.MirrorNew(17)
	wantMirror(t, "new", m, impl.Mirror{Id: 17, St: impl.StoreNew(), Best: noTexts})
	m = wantHear(t, "a head", m, table, headMsg(three), withBest(m, three), impl.Msg{Kind: 2, From: 17, To: 3, H: three})
	word := impl.Msg{Kind: 3, From: 3, To: 17, H: three, Texts: texts}
	st := impl.Store{L: impl.Log{Texts: texts, H: three}, Bytes: impl.PutCommit(three, texts)}
	m = wantHear(t, "its texts", m, table, word, impl.Mirror{Id: 17, St: st, Best: three})
	wantDeaf(t, "its texts once more", m, table, word)
	wantDeaf(t, "the head once more", m, table, headMsg(three))
	wantHear(t, "an ask", m, table, askMsg(three, 1), m, impl.Msg{Kind: 3, From: 17, To: 3, H: three, N: 1, Texts: []string{"b", "c"}})
	wantCrash(t, "a crash", m, table, 0, impl.MirrorNew(17), 0)
	m.St.Sure = len(st.Bytes)
	wantCrash(t, "a crash behind all that is sure", m, table, 0, m, 1)
}

// One has all, the other one the first of it: it hears of all, asks for the rest, and takes it.
func TestMirrorsFetchFromOneAnother(t *testing.T) {
	for _, size := range []int{1, 2, 3, 4, 5, 8, 9, 64, 65, 199, 200} {
		texts := leafTexts(size)
		for _, have := range []int{0, 1, size / 2, size - 2, size - 1} {
			if have < 0 || have >= size {
				continue
			}
			ends := []int{have, size}
			if have == 0 {
				ends = ends[1:]
			}
			all, table := mirrorOf(texts, size)
			rich := withId(all, 3)
			table = signedToo(table, headByModel(texts[:have]))
			poor, _ := mirrorOf(texts, ends[:len(ends)-1]...)
			h := rich.Best

			gossip := impl.Gossip(rich, table, 17)
			wantSaid(t, "Gossip of all", gossip, headMsg(h))
			wantSaid(t, "AskFor of all", impl.AskFor(rich, table, 17))
			poor = wantHear(t, "the head", poor, table, gossip[0], withBest(poor, h), backMsg(askMsg(h, have)))
			wantSaid(t, "Gossip of less", impl.Gossip(poor, table, 3), backMsg(headMsg(h)))
			ask := impl.AskFor(poor, table, 3)
			wantSaid(t, "AskFor of less", ask, backMsg(askMsg(h, have)))
			_, answer := impl.Hear(rich, table, ask[0])
			wantHear(t, "the ask", rich, table, ask[0], rich, textsMsg(h, have, texts[have:]))
			want, _ := mirrorOf(texts, ends...)
			poor = wantHear(t, "the texts", poor, table, answer[0], want)
			wantSaid(t, "AskFor behind it", impl.AskFor(poor, table, 3))
			wantDeaf(t, "the texts twice", poor, table, answer[0])
		}
	}
}

func TestNewMirrors(t *testing.T) {
	for id := range 21 {
		m := impl.MirrorNew(id)
		wantMirror(t, "new", m, impl.Mirror{Id: id, St: impl.StoreNew(), Best: noTexts})
		wantRightMirror(t, "new", m, nil)
		wantRightMirror(t, "new", m, []impl.Head{headWith(3, "a"), zeroHead})
		wantCrash(t, "new", m, nil, 5, m, 0)
		wantSync(t, "new", m, nil, m)
	}
	for _, id := range notMirrors {
		m := impl.MirrorNew(id)
		wantMirror(t, "not so", m, impl.Mirror{})
		wantWrongMirror(t, "not so", m, []impl.Head{zeroHead})
	}
}

func TestIdsOfMirrors(t *testing.T) {
	m, table := mirrorOf([]string{"a", "b"}, 1, 2)
	for id := -3; id <= 24; id++ {
		if id >= 0 && id <= 20 {
			wantRightMirror(t, "an id", withId(m, id), table)
			continue
		}
		wantWrongMirror(t, "an id", withId(m, id), table)
	}
	for _, id := range notMirrors {
		wantWrongMirror(t, "an id", withId(m, id), table)
	}
}

func TestWhoIsToldAndAsked(t *testing.T) {
	all, table := mirrorOf([]string{"a", "b", "c"}, 2, 3)
	less, _ := mirrorOf([]string{"a", "b", "c"}, 2)
	for id := range 21 {
		for to := -2; to <= 23; to++ {
			for _, m := range []impl.Mirror{withId(all, id), withBest(withId(less, id), table[1]), withId(less, id), impl.MirrorNew(id)} {
				told, asked := impl.Gossip(m, table, to), impl.AskFor(m, table, to)
				if to < 0 || to > 20 || to == id {
					wantSaid(t, "Gossip to none", told)
					wantSaid(t, "AskFor of none", asked)
					continue
				}
				wantSaid(t, "Gossip", told, impl.Msg{Kind: 1, From: id, To: to, H: m.Best})
				wantSaid(t, "AskFor", asked, askByModel(m, table, to)...)
				if (len(asked) == 1) != (m.Best.Size > len(m.St.L.Texts)) {
					t.Errorf("%d words ask for %d texts by one that has %d", len(asked), m.Best.Size, len(m.St.L.Texts))
				}
			}
		}
		for _, to := range notMirrors {
			wantSaid(t, "Gossip to none", impl.Gossip(withId(all, id), table, to))
			wantSaid(t, "AskFor of none", impl.AskFor(withBest(withId(less, id), table[1]), table, to))
		}
	}
}

// Best may be less than what the log has, as great, or more: then, and then alone, it is asked for.
func TestWhatIsAskedFor(t *testing.T) {
	texts := leafTexts(200)
	var table []impl.Head
	for size := range 201 {
		table = append(table, headByModel(texts[:size]))
	}
	for _, have := range []int{0, 1, 2, 100, 199, 200} {
		for _, best := range []int{0, 1, 2, 99, 100, 101, 198, 199, 200} {
			m, _ := mirrorOf(texts, have)
			if have == 0 {
				m = impl.MirrorNew(17)
			}
			m.Best = table[best]
			wantRightMirror(t, "it has some, and heard of some", m, table)
			wantSaid(t, "Gossip", impl.Gossip(m, table, 3), backMsg(headMsg(table[best])))
			if best > have {
				wantSaid(t, "AskFor of more", impl.AskFor(m, table, 3), backMsg(askMsg(table[best], have)))
				continue
			}
			wantSaid(t, "AskFor of no more", impl.AskFor(m, table, 3))
		}
	}
}

// Best is HeadOf none or signed, and so is the log's head; what is between is not asked.
func TestWhatMirrorsMayHave(t *testing.T) {
	texts := []string{"a", "b", "c"}
	m, table := mirrorOf(texts, 1, 2, 3)
	one, two, three := table[0], table[1], table[2]
	fork := headWith(3, "x")
	for _, c := range []struct {
		what  string
		m     impl.Mirror
		table []impl.Head
		right bool
	}{
		{"both none, an empty table", impl.MirrorNew(17), nil, true},
		{"both none, not in the table", impl.MirrorNew(17), table, true},
		{"both none, in the table", impl.MirrorNew(17), []impl.Head{noTexts}, true},
		{"Best in the table, no texts", withBest(impl.MirrorNew(17), three), table, true},
		{"Best alone in the table, no texts", withBest(impl.MirrorNew(17), three), []impl.Head{three}, true},
		{"Best not in the table, no texts", withBest(impl.MirrorNew(17), three), table[:2], false},
		{"Best, an empty table", withBest(impl.MirrorNew(17), three), nil, false},
		{"both in the table", m, table, true},
		{"both one head, alone in the table", m, []impl.Head{three}, true},
		{"neither in the table", m, table[:2], false},
		{"neither, an empty table", m, nil, false},
		{"Best none, the log in the table", withBest(m, noTexts), []impl.Head{three}, true},
		{"Best none, the log not in the table", withBest(m, noTexts), []impl.Head{noTexts, one, two}, false},
		{"Best less", withBest(m, one), []impl.Head{one, three}, true},
		{"Best less, the log not in the table", withBest(m, one), []impl.Head{one, two}, false},
		{"Best less, not in the table", withBest(m, one), []impl.Head{two, three}, false},
		{"Best forks", withBest(m, fork), []impl.Head{fork, three}, true},
		{"Best forks, the log not in the table", withBest(m, fork), []impl.Head{fork, two}, false},
		{"Best forks, not in the table", withBest(m, fork), table, false},
		{"Best of Size 0 that is not none, in the table", withBest(m, headWith(0, "a")), signedToo(table, headWith(0, "a")), true},
		{"Best of Size 0 that is not none, not in the table", withBest(m, headWith(0, "a")), table, false},
		{"Best of the Root of none, of another Size", withBest(m, impl.Head{Size: 1, Root: noTexts.Root}), signedToo(table, noTexts), false},
		{"Best has its Root and Size of two in the table", withBest(m, impl.Head{Size: 2, Root: three.Root}), table, false},
	} {
		if c.right {
			wantRightMirror(t, c.what, c.m, c.table)
			continue
		}
		wantWrongMirror(t, c.what, c.m, c.table)
	}
}

func TestBestThatIsNoHead(t *testing.T) {
	m, table := mirrorOf([]string{"a", "b"}, 2)
	for _, h := range wrongHeads() {
		for _, signed := range [][]impl.Head{nil, table, {h}, signedToo(table, h)} {
			wantWrongMirror(t, "no head", withBest(m, h), signed)
			wantWrongMirror(t, "no head, no texts", withBest(impl.MirrorNew(17), h), signed)
		}
	}
}

func TestMirrorsOfWrongStores(t *testing.T) {
	for what, s := range wrongStores() {
		all := []impl.Head{headByModel([]string{"a"}), headByModel([]string{"a", "b", "c"}), headByModel([]string{"a", "b", "c", "d"}), s.L.H}
		wantWrongMirror(t, what, impl.Mirror{Id: 17, St: s, Best: noTexts}, all)
		wantWrongMirror(t, what, impl.Mirror{Id: 17, St: withSure(s, len(s.Bytes)), Best: all[2]}, all)
	}
	m, table := mirrorOf([]string{"a", "b"}, 1, 2)
	for _, sure := range []int{-1, len(m.St.Bytes) + 1, math.MinInt, math.MaxInt} {
		wrong := m
		wrong.St = withSure(m.St, sure)
		wantWrongMirror(t, "Sure", wrong, table)
	}
	for _, sure := range []int{0, 1, len(m.St.Bytes)} {
		right := m
		right.St = withSure(m.St, sure)
		wantRightMirror(t, "Sure", right, table)
	}
	for _, places := range [][]int{{60000}, {60001}} {
		st, table, _ := bigStore(t, places...)
		wantMirrorOk(t, "near MaxBytes", impl.Mirror{Id: 17, St: st, Best: st.L.H}, table, places[0] == 60000)
	}
	wantWrongMirror(t, "the zero one", impl.Mirror{}, nil)
	wantWrongMirror(t, "the zero one, signed", impl.Mirror{}, []impl.Head{zeroHead})
}

func TestHeadsThatMirrorsHearOf(t *testing.T) {
	texts := leafTexts(6)
	m, _ := mirrorOf(texts, 2)
	var table []impl.Head
	for size := range texts {
		table = append(table, headByModel(texts[:size]))
	}
	m.Best = table[4]
	ask := func(h impl.Head, n int) impl.Msg { return backMsg(askMsg(h, n)) }
	fork, far, none := headWith(4, "x"), headWith(200, "x"), headWith(0, "x")
	signed := signedToo(table, fork, far, none)

	wantDeaf(t, "not signed, more", m, table, headMsg(headByModel(texts)))
	wantDeaf(t, "not signed, much more", m, table, headMsg(far))
	wantDeaf(t, "not signed, as great", m, table, headMsg(fork))
	wantDeaf(t, "not signed, less", m, table, headMsg(headWith(3, "x")))
	wantDeaf(t, "not signed, with a Root that is", m, table, headMsg(impl.Head{Size: 5, Root: table[3].Root}))
	wantDeaf(t, "not signed, none", m, table[1:], headMsg(noTexts))
	wantHear(t, "none, signed", m, table, headMsg(noTexts), m, ask(table[4], 2))
	wantHear(t, "another one of Size 0, signed", m, signed, headMsg(none), m, ask(table[4], 2))
	wantHear(t, "less than the log", m, table, headMsg(table[1]), m, ask(table[4], 2))
	wantHear(t, "the log's", m, table, headMsg(table[2]), m, ask(table[4], 2))
	wantHear(t, "less than Best", m, table, headMsg(table[3]), m, ask(table[4], 2))
	wantHear(t, "Best", m, table, headMsg(table[4]), m, ask(table[4], 2))
	wantHear(t, "as great as Best", m, signed, headMsg(fork), m, ask(table[4], 2))
	wantHear(t, "as great as Best, that forks", withBest(m, fork), signed, headMsg(table[4]), withBest(m, fork), ask(fork, 2))
	wantHear(t, "one more than Best", m, table, headMsg(table[5]), withBest(m, table[5]), ask(table[5], 2))
	wantHear(t, "much more than Best", m, signed, headMsg(far), withBest(m, far), ask(far, 2))
	wantHear(t, "of another one", m, table, sentBetween(headMsg(table[5]), 20, 17), withBest(m, table[5]), sentBetween(askMsg(table[5], 2), 17, 20))
	wantHear(t, "of the first one", m, table, sentBetween(headMsg(table[5]), 0, 17), withBest(m, table[5]), sentBetween(askMsg(table[5], 2), 17, 0))

	level := withBest(m, table[2])
	wantDeaf(t, "level, its own head", level, table, headMsg(table[2]))
	wantDeaf(t, "level, less", level, table, headMsg(table[1]))
	wantHear(t, "level, more", level, table, headMsg(table[3]), withBest(m, table[3]), ask(table[3], 2))
	behind := withBest(m, noTexts) // its log has more than it heard of
	wantHear(t, "more than Best, less than the log", behind, table, headMsg(table[1]), withBest(m, table[1]))
	wantHear(t, "more than Best, as great as the log", behind, table, headMsg(table[2]), level)
	wantHear(t, "more than Best and the log", behind, table, headMsg(table[3]), withBest(m, table[3]), ask(table[3], 2))
}

func TestTextsThatMirrorsAreAskedFor(t *testing.T) {
	for _, size := range []int{1, 2, 3, 5, 8, 65, 199, 200} {
		texts := leafTexts(size)
		ends := []int{size}
		if size > 2 {
			ends = []int{1, size - 1, size}
		}
		m, table := mirrorOf(texts, ends...)
		for _, end := range []int{1, 2, size / 2, size - 1, size} {
			if end < 1 || end > size {
				continue
			}
			h := headByModel(texts[:end]) // signed or not: its own texts come to it
			for _, n := range []int{0, 1, end / 2, end - 1} {
				if n < end {
					wantHear(t, "its beginning", m, table, askMsg(h, n), m, backMsg(textsMsg(h, n, texts[n:end])))
				}
				wantDeaf(t, "from behind it", m, table, askMsg(h, end+n))
			}
			for _, other := range []impl.Head{headWith(end, "x"), headByModel(changed(texts[:end], 0)), headByModel(changed(texts[:end], end-1)), {Size: end, Root: headByModel(texts[:end-1]).Root}} {
				wantDeaf(t, "of other texts", m, signedToo(table, other), askMsg(other, end-1))
				wantDeaf(t, "of other texts", m, signedToo(table, other), askMsg(other, 0))
			}
		}
		if size == 200 {
			continue
		}
		for _, last := range []string{"x", ""} { // an empty text is one, too
			more := headByModel(append(slices.Clone(texts), last))
			wantDeaf(t, "of one more", m, signedToo(table, more), askMsg(more, size))
			wantDeaf(t, "of one more", withBest(m, more), signedToo(table, more), askMsg(more, 0))
		}
		wantDeaf(t, "of its own Root, one more", m, table, askMsg(impl.Head{Size: size + 1, Root: m.Best.Root}, 0))
	}
	wantDeaf(t, "no texts", impl.MirrorNew(17), nil, askMsg(headByModel([]string{""}), 0))
	m, table := mirrorOf([]string{"a", "b"}, 2)
	wantHear(t, "of another one", m, table, sentBetween(askMsg(m.Best, 1), 20, 17), m, sentBetween(textsMsg(m.Best, 1, []string{"b"}), 17, 20))
	behind := withBest(m, noTexts) // what it heard of does not matter, what it has does
	wantHear(t, "it heard of none", behind, table, askMsg(m.Best, 0), behind, backMsg(textsMsg(m.Best, 0, []string{"a", "b"})))
}

func TestTextsThatMirrorsAreHanded(t *testing.T) {
	texts := leafTexts(6)
	m, _ := mirrorOf(texts, 1, 3)
	var table []impl.Head
	for size := range 7 {
		table = append(table, headByModel(texts[:size]))
	}
	five, _ := mirrorOf(texts, 1, 3, 5)
	wantHear(t, "just behind its own", m, table, textsMsg(table[5], 3, texts[3:5]), five)
	wantHear(t, "of another one", m, table, sentBetween(textsMsg(table[5], 3, texts[3:5]), 20, 17), five)
	wantHear(t, "alone signed", withBest(m, noTexts), []impl.Head{table[3], table[5]}, textsMsg(table[5], 3, texts[3:5]), five)
	for n := range 6 {
		for size := n + 1; size <= 6; size++ {
			w := textsMsg(table[size], n, texts[n:size])
			if n != 3 {
				wantDeaf(t, "from another place", m, table, w)
			}
			wantHearLikeModel(t, "from any place", m, table, w)
			wantHearLikeModel(t, "from any place, a new one", impl.MirrorNew(17), table, w)
		}
	}
	other := headByModel(append(slices.Clone(texts[:3]), "x"))
	signed := signedToo(table, other, headWith(4, "x"))
	wantDeaf(t, "not signed", m, table, textsMsg(other, 3, []string{"x"}))
	wantDeaf(t, "not signed, fewer are", m, table[:5], textsMsg(table[5], 3, texts[3:5]))
	wantDeaf(t, "a text that is not the head's", m, table, textsMsg(table[4], 3, []string{"x"}))
	wantDeaf(t, "a last text that is not the head's", m, table, textsMsg(table[5], 3, []string{texts[3], "x"}))
	wantDeaf(t, "another order", m, table, textsMsg(table[5], 3, []string{texts[4], texts[3]}))
	wantDeaf(t, "the next ones", m, table, textsMsg(table[4], 3, texts[4:5]))
	wantDeaf(t, "a head of no texts that are known", m, signed, textsMsg(headWith(4, "x"), 3, texts[3:4]))
	wantDeaf(t, "a head of these texts alone", m, signedToo(signed, headByModel(texts[3:4])), textsMsg(headByModel(texts[3:4]), 0, texts[3:4]))
	forked := wantHearLikeModel(t, "a fork that is signed", m, signed, textsMsg(other, 3, []string{"x"}))
	wantMirror(t, "a fork that is signed", forked, withBest(forked, other))
	if !slices.Equal(forked.St.L.Texts, append(slices.Clone(texts[:3]), "x")) {
		t.Errorf("a fork that is signed was not taken: %q", forked.St.L.Texts)
	}
}

// What is taken is Best, if its Size is more: what was heard of stays, if it is more, or as great.
func TestBestBehindTexts(t *testing.T) {
	texts := leafTexts(6)
	m, _ := mirrorOf(texts, 2)
	var table []impl.Head
	for size := range 7 {
		table = append(table, headByModel(texts[:size]))
	}
	fork := headWith(4, "x")
	table = signedToo(table, fork)
	four, _ := mirrorOf(texts, 2, 4)
	w := textsMsg(table[4], 2, texts[2:4])
	for _, c := range []struct{ before, behind impl.Head }{
		{noTexts, table[4]}, {table[1], table[4]}, {table[2], table[4]}, {table[3], table[4]},
		{table[4], table[4]}, {fork, fork}, {table[5], table[5]}, {table[6], table[6]},
	} {
		got := wantHear(t, "texts", withBest(m, c.before), table, w, withBest(four, c.behind))
		wantDeaf(t, "the same ones", got, table, w)
		wantDeaf(t, "texts that are not the head's", withBest(m, c.before), table, textsMsg(table[4], 2, texts[3:5]))
	}
}

func TestMirrorsTakeNoMoreThanMaxBytes(t *testing.T) {
	all, table, texts := bigStore(t, 30000, 60000)
	st, _ := storeOf(texts, 1)
	for _, sure := range []int{0, len(st.Bytes)} {
		m := impl.Mirror{Id: 17, St: withSure(st, sure), Best: table[0]}
		full := impl.Mirror{Id: 17, St: withSure(all, sure), Best: table[1]}
		wantHear(t, "just as many", m, table, textsMsg(table[1], 1, texts[1:]), full)
		big := []string{texts[1] + "f"}
		h := headByModel([]string{texts[0], big[0]})
		wantDeaf(t, "one more", m, signedToo(table, h), textsMsg(h, 1, big))
		wantDeaf(t, "one more, which it heard of", withBest(m, h), signedToo(table, h), textsMsg(h, 1, big))
		more := headByModel([]string{texts[0], texts[1], ""})
		wantDeaf(t, "one behind all", full, signedToo(table, more), textsMsg(more, 2, []string{""}))
	}
	huge := []string{strings.Repeat("h", 70000)}
	h := headByModel(huge)
	wantDeaf(t, "many more", impl.MirrorNew(17), []impl.Head{h}, textsMsg(h, 0, huge))
}

func TestMirrorsTakeUpToTheLimit(t *testing.T) {
	texts := leafTexts(201)
	m := impl.MirrorNew(17)
	var table []impl.Head
	for size := range 201 {
		table = append(table, headByModel(texts[:size]))
	}
	for size := 1; size <= 200; size += 1 + size/3 {
		have := len(m.St.L.Texts)
		m = wantHearLikeModel(t, "more and more", m, table, textsMsg(table[size], have, texts[have:size]))
		if len(m.St.L.Texts) != size || m.Best != table[size] {
			t.Fatalf("%d texts, the best head %d; want %d", len(m.St.L.Texts), m.Best.Size, size)
		}
	}
	have := len(m.St.L.Texts)
	m = wantHearLikeModel(t, "all", m, table, textsMsg(table[200], have, texts[have:200]))
	h := impl.Head{Size: 201, Root: rootByModel(texts)}
	wantDeaf(t, "one too many", m, signedToo(table, h), textsMsg(h, 200, texts[200:]))
	wantDeaf(t, "a head that is none", m, signedToo(table, h), headMsg(h))
	wantDeaf(t, "all once more", m, table, textsMsg(table[200], 199, texts[199:200]))
}

// msgsTo17: of each kind one that a mirror of the first two texts heeds.
func msgsTo17(texts []string) []impl.Msg {
	h := headByModel(texts[:3])
	return []impl.Msg{headMsg(h), askMsg(headByModel(texts[:2]), 1), textsMsg(h, 2, texts[2:3])}
}

func TestWordsToOthers(t *testing.T) {
	texts := []string{"a", "b", "c"}
	m, table := mirrorOf(texts, 2)
	table = signedToo(table, headByModel(texts))
	for _, w := range msgsTo17(texts) {
		for id := range 21 {
			for to := range 21 {
				if to == 3 {
					continue
				}
				heard := sentBetween(w, 3, to)
				if to != id {
					wantDeaf(t, "to another one", withId(m, id), table, heard)
					continue
				}
				got, said := impl.Hear(withId(m, id), table, heard)
				if sameMirror(got, withId(m, id)) && len(said) == 0 {
					t.Errorf("the mirror %d did not heed a word of kind %d to it", id, w.Kind)
				}
				wantHearLikeModel(t, "to it", withId(m, id), table, heard)
			}
		}
		for from := -1; from <= 21; from++ {
			wantHearLikeModel(t, "from anyone", m, table, sentBetween(w, from, 17))
			wantHearLikeModel(t, "from anyone, to it or not", withId(m, 16), table, sentBetween(w, from, 16))
		}
	}
}

func TestWordsThatAreNone(t *testing.T) {
	texts := []string{"a", "b", "c"}
	m, table := mirrorOf(texts, 2)
	two, three := table[0], headByModel(texts)
	table = signedToo(table, three, zeroHead, noTexts)
	for _, w := range msgsTo17(texts) {
		for _, kind := range notKinds {
			other := w
			other.Kind = kind
			wantDeaf(t, "no kind", m, table, other)
		}
		wantDeaf(t, "to oneself", m, table, sentBetween(w, 17, 17))
		for _, from := range notMirrors {
			wantDeaf(t, "from none", m, table, sentBetween(w, from, 17))
			wantDeaf(t, "to none", withId(m, from), table, sentBetween(w, 3, from))
		}
		for _, h := range wrongHeads() {
			other := w
			other.H = h
			wantDeaf(t, "no head", m, signedToo(table, h), other)
		}
	}
	place := headMsg(three)
	place.N = 1
	wantDeaf(t, "a head with a place", m, table, place)
	with := headMsg(three)
	with.Texts = texts[2:]
	wantDeaf(t, "a head with texts", m, table, with)
	with = askMsg(two, 1)
	with.Texts = texts[1:2]
	wantDeaf(t, "an ask with texts", m, table, with)
	for _, n := range []int{-1, 2, 3, 200, math.MinInt, math.MaxInt} {
		wantDeaf(t, "an ask from no place", m, table, askMsg(two, n))
	}
	wantDeaf(t, "an ask of no texts", m, table, askMsg(noTexts, 0))
	wantDeaf(t, "no texts", m, table, textsMsg(two, 2, nil))
	wantDeaf(t, "too few texts", m, table, textsMsg(three, 2, nil))
	wantDeaf(t, "too many texts", m, table, textsMsg(three, 2, []string{"c", "d"}))
	wantDeaf(t, "the zero word", withId(m, 0), table, impl.Msg{})
	wantDeaf(t, "the zero word, a new mirror", impl.MirrorNew(0), table, impl.Msg{})
}

func TestSyncedMirrors(t *testing.T) {
	texts := leafTexts(7)
	m, table := mirrorOf(texts, 1, 4, 7)
	for _, sure := range []int{0, 1, endsOf(m.St.Bytes)[0], len(m.St.Bytes) - 1, len(m.St.Bytes)} {
		for _, best := range signedToo(table, noTexts) {
			some := withBest(m, best)
			some.St = withSure(m.St, sure)
			got := wantSync(t, "synced", some, table, withBest(allSure(m), best))
			wantSync(t, "synced twice", got, table, got)
		}
	}
}

func TestCrashedMirrors(t *testing.T) {
	texts := leafTexts(7)
	ends := []int{1, 4, 7}
	m, table := mirrorOf(texts, ends...)
	far := headWith(9, "x")
	table = signedToo(table, far)
	places := append([]int{0}, endsOf(m.St.Bytes)...)
	for _, sure := range []int{0, 1, places[1], places[2] - 1, places[2], places[3]} {
		for _, best := range []impl.Head{m.Best, noTexts, far} { // what was heard of and not taken is forgotten
			for keep := -2; keep <= places[3]+2; keep++ {
				some := withBest(m, best)
				some.St = withSure(m.St, sure)
				count := 0
				for count < 3 && places[count+1] <= sure+max(keep, 0) {
					count++
				}
				want := impl.MirrorNew(17)
				if count > 0 {
					want, _ = mirrorOf(texts, ends[:count]...)
				}
				got := wantCrash(t, "crashed", some, table, keep, allSure(want), count)
				wantCrash(t, "crashed twice", got, table, keep, got, count)
			}
			for _, keep := range []int{math.MinInt, math.MinInt + 1, math.MaxInt, math.MaxInt - 1, 1 << 32} {
				some := withBest(m, best)
				some.St = withSure(m.St, sure)
				wantCrashLikeModel(t, "crashed", some, table, keep)
			}
		}
	}
	for _, keep := range []int{-1, 0, 1, 100} {
		wantCrash(t, "synced and crashed", impl.SyncMirror(m, table), table, keep, allSure(m), 3)
		wantCrash(t, "crashed with none", withBest(impl.MirrorNew(17), far), table, keep, impl.MirrorNew(17), 0)
	}
}

// A commit that is not signed, or no longer, is not taken back; a mirror may well have it.
func TestCrashedMirrorsOfFewerHeads(t *testing.T) {
	texts := leafTexts(7)
	m, table := mirrorOf(texts, 1, 4, 7)
	for _, c := range []struct {
		table []impl.Head
		count int
	}{
		{table, 3}, {table[2:], 0}, {[]impl.Head{table[0], table[2]}, 1}, {[]impl.Head{table[1], table[2]}, 0},
	} {
		want := impl.MirrorNew(17)
		if c.count > 0 {
			want, _ = mirrorOf(texts, []int{1, 4, 7}[:c.count]...)
		}
		wantCrash(t, "fewer signed", allSure(m), c.table, 0, allSure(want), c.count)
	}
	wantCrash(t, "its head not signed", allSure(m), table[:2], 0, allSure(m), -1)
}

// A mirror that crashed hears and asks for what it lost.
func TestMirrorsGoOnBehindACrash(t *testing.T) {
	texts := leafTexts(5)
	all, table := mirrorOf(texts, 2, 5)
	two, _ := mirrorOf(texts, 2)
	lost := all
	lost.St = withSure(all.St, len(two.St.Bytes))
	got := wantCrash(t, "its last commit is lost", lost, table, 10, allSure(two), 1)
	got = wantHear(t, "the head again", got, table, headMsg(table[1]), withBest(allSure(two), table[1]), backMsg(askMsg(table[1], 2)))
	got = wantHear(t, "the texts again", got, table, textsMsg(table[1], 2, texts[2:]), lost)
	wantCrash(t, "sure by now", wantSync(t, "behind a crash", got, table, allSure(all)), table, 0, allSure(all), 2)
}

// smallWords: whatever may be said of small texts, right or wrong, by right words and by others.
func smallWords() []impl.Msg {
	heads := []impl.Head{noTexts, headWith(1, "x"), headWith(2, "x"), {Size: 2}}
	for _, l := range listsOf([]string{"a", "b"}, 3) {
		if len(l) > 0 {
			heads = append(heads, headByModel(l))
		}
	}
	var words []impl.Msg
	for _, h := range heads {
		words = append(words, headMsg(h), sentBetween(headMsg(h), 3, 16))
		for n := -1; n <= 3; n++ {
			words = append(words, askMsg(h, n))
			for _, texts := range listsOf([]string{"a", "b"}, 2) {
				words = append(words, textsMsg(h, n, texts))
			}
		}
	}
	return words
}

func keyOf(m impl.Mirror) string {
	return formed(m.Best.Size, m.Best.Root, m.St.L.Texts, string(m.St.Bytes), m.St.Sure)
}

// Promise 14, of all that is small: whatever a mirror hears, in whatever order, with whatever crash between, it stays right.
func TestMirrorsThatHearAnythingStayRight(t *testing.T) {
	table := []impl.Head{headWith(2, "x")}
	for _, l := range listsOf([]string{"a", "b"}, 3) {
		if len(l) > 0 && !slices.Equal(l, []string{"a", "b"}) && l[len(l)-1] != "b" || len(l) == 1 {
			table = append(table, headByModel(l))
		}
	}
	words := smallWords()
	row := []impl.Mirror{impl.MirrorNew(17)}
	seen := map[string]bool{keyOf(row[0]): true}
	met := [4]int{}
	for at := 0; at < len(row); at++ {
		m := row[at]
		wantRightMirror(t, "small", m, table)
		next := []impl.Mirror{impl.SyncMirror(m, table)}
		for _, keep := range []int{0, 41, 1000} {
			next = append(next, wantCrashLikeModel(t, "small", m, table, keep))
		}
		for _, w := range words {
			got := wantHearLikeModel(t, "small", m, table, w)
			if !sameMirror(got, m) {
				met[w.Kind]++
			}
			if !isSignedByModel(signedToo(table, noTexts), got.St.L.H) || !isSignedByModel(signedToo(table, noTexts), got.Best) {
				t.Errorf("a head that was not signed behind the word %s", shortly([]impl.Msg{w}))
			}
			next = append(next, got)
		}
		for _, m := range next {
			if !seen[keyOf(m)] {
				seen[keyOf(m)] = true
				row = append(row, m)
			}
		}
	}
	if len(row) < 100 || met[impl.MsgHead] == 0 || met[impl.MsgAsk] != 0 || met[impl.MsgTexts] == 0 {
		t.Errorf("%d mirrors; how often each kind changed one: %v", len(row), met)
	}
}

// Promise 14, of words that were bent on their way: each byte turned into each other one.
func TestMirrorsThatHearTurnedWordsStayRight(t *testing.T) {
	texts := []string{"a", "b", "c", "d"}
	m, table := mirrorOf(texts, 2)
	table = signedToo(table, headByModel(texts[:3]), headByModel(texts), headWith(5, "\x20"))
	words := 0
	for _, w := range []impl.Msg{
		headMsg(table[2]), askMsg(table[0], 0), askMsg(headByModel(texts[:1]), 0), textsMsg(table[1], 2, texts[2:3]), textsMsg(table[2], 2, texts[2:]),
	} {
		b := laidOut(w)
		for at := range b {
			for c := range 256 {
				turned := bytes.Clone(b)
				turned[at] = byte(c)
				if heard, ok := getMsgByModel(turned); ok {
					words++
					wantHearLikeModel(t, "turned", m, table, heard)
				}
			}
		}
	}
	if words < 5*32*256 { // a Root may be any
		t.Errorf("%d of them were words", words)
	}
}

// Two lists of one root: a mirror has the one that it took. (This takes digests that do clash.)
func TestMirrorsOfOneRoot(t *testing.T) {
	if !overWeakDigests(t) {
		return
	}
	met := 0
	lists := listsOf([]string{"a", "b", "c", "d"}, 3)
	for _, l := range lists {
		h := impl.HeadOf(l)
		table := []impl.Head{h}
		for _, taken := range lists {
			if len(l) == 0 || len(l) != len(taken) {
				continue
			}
			m, _ := impl.Hear(impl.MirrorNew(17), table, textsMsg(h, 0, taken))
			if impl.HeadOf(taken) != h {
				wantMirror(t, "texts of another root", m, impl.MirrorNew(17))
				continue
			}
			_, said := impl.Hear(m, table, askMsg(h, 0))
			wantSaid(t, "what was taken", said, backMsg(textsMsg(h, 0, taken)))
			wantMirrorOk(t, "what was taken", m, table, true)
			if !slices.Equal(l, taken) {
				met++
				m.St.L = impl.Log{Texts: l, H: h}
				wantMirrorOk(t, "other texts of one root", m, table, false)
			}
		}
	}
	if met == 0 {
		t.Error("no two lists have one root")
	}
}

// mirrorCall is what a mirror was handed; no two of its texts share memory.
type mirrorCall struct {
	m     impl.Mirror
	table []impl.Head
	w     impl.Msg
	keep  int
}

// mirrorCalls has words of each kind that are heeded and that are not, mirrors that are right and wrong, with room behind each list.
func mirrorCalls() []mirrorCall {
	var texts []string
	for i := range 9 {
		texts = append(texts, strings.Repeat(string(rune('a'+i)), 40))
	}
	own := func(from, to int, more ...string) []string {
		var l []string
		for _, s := range texts[from:to] {
			l = append(l, strings.Clone(s))
		}
		return spared(l, more...)
	}
	head := func(n int) impl.Head { return headByModel(texts[:n]) }
	var calls []mirrorCall
	for _, w := range []impl.Msg{
		headMsg(head(9)), headMsg(head(5)), headMsg(head(3)), headMsg(head(8)),
		askMsg(head(5), 0), askMsg(head(5), 3), askMsg(head(3), 1), askMsg(head(9), 0), askMsg(headWith(5, "x"), 0),
		textsMsg(head(9), 5, own(5, 9, "spare", "room")), textsMsg(head(8), 5, own(5, 8)), textsMsg(head(9), 5, own(4, 8)),
		textsMsg(head(9), 0, own(0, 9)), textsMsg(head(3), 0, own(0, 3, "spare")), textsMsg(head(9), 5, own(5, 8)), sentBetween(headMsg(head(9)), 3, 4),
	} {
		for _, ends := range [][]int{{3, 5}, {1, 2, 3, 4, 5}, {3}, {}} {
			for _, cut := range []int{0, 1} {
				m, _ := mirrorOf(texts, ends...)
				have := len(m.St.L.Texts)
				m.Best.Root = strings.Clone(m.Best.Root)
				m.St.L.Texts = own(0, have, slices.Repeat([]string{"spare"}, 20)...)
				m.St.Bytes = roomy(string(m.St.Bytes[:max(len(m.St.Bytes)-cut, 0)]), strings.Repeat("\x07room", 200))
				m.St.Sure = len(m.St.Bytes) / 2
				w.H.Root = strings.Clone(w.H.Root)
				w.Texts = spared(w.Texts, w.Texts[len(w.Texts):cap(w.Texts)]...)
				calls = append(calls, mirrorCall{m, sparedHeads([]impl.Head{head(3), head(5), head(9)}), w, len(m.St.Bytes) / 4})
			}
		}
	}
	return calls
}

// mirrorAnswer is one answer: its lists share no memory with each other.
type mirrorAnswer struct {
	m    impl.Mirror
	said []impl.Msg
}

func mirrorAnswers(c mirrorCall) []mirrorAnswer {
	heard, said := impl.Hear(c.m, c.table, c.w)
	fallen, _ := impl.CrashMirror(c.m, c.table, c.keep)
	return []mirrorAnswer{
		{heard, said}, {fallen, nil}, {impl.SyncMirror(c.m, c.table), nil}, {impl.MirrorNew(17), nil},
		{impl.Mirror{}, impl.Gossip(c.m, c.table, 3)}, {impl.Mirror{}, impl.AskFor(c.m, c.table, 3)},
	}
}

func sameMirrorAnswer(a, b mirrorAnswer) bool {
	return sameMirror(a.m, b.m) && slices.EqualFunc(a.said, b.said, sameMsg)
}

// cloneAnswer copies all lists.
func cloneAnswer(a mirrorAnswer) mirrorAnswer {
	kept := mirrorAnswer{m: cloneMirror(a.m)}
	for _, w := range a.said {
		kept.said = append(kept.said, cloneMsg(w))
	}
	return kept
}

func TestMirrorCallsMeetEachAnswer(t *testing.T) {
	changed, said, deaf, wrong := map[int]int{}, map[int]int{}, map[int]int{}, 0
	for _, c := range mirrorCalls() {
		got := wantHearLikeModel(t, "a call", c.m, c.table, c.w)
		wantCrashLikeModel(t, "a call", c.m, c.table, c.keep)
		_, words := hearByModel(c.m, c.table, c.w)
		switch {
		case !isMirrorByModel(c.m, c.table):
			wrong++
		case !sameMirror(got, c.m):
			changed[c.w.Kind]++
		case len(words) > 0:
			said[c.w.Kind]++
		default:
			deaf[c.w.Kind]++
		}
	}
	if wrong == 0 || changed[1] == 0 || changed[3] == 0 || said[2] == 0 || len(deaf) != 3 {
		t.Errorf("changed %v, said %v, deaf %v, wrong %d", changed, said, deaf, wrong)
	}
}

func TestMirrorsLeaveTheirListsAlone(t *testing.T) {
	for i, c := range mirrorCalls() {
		texts, more, table := c.m.St.L.Texts, c.w.Texts, c.table
		kept, keptTexts, keptMore, keptTable := wholeOf(c.m.St.Bytes), slices.Clone(texts[:cap(texts)]), slices.Clone(more[:cap(more)]), slices.Clone(table[:cap(table)])
		mirrorAnswers(c)
		impl.MirrorOk(c.m, c.table)
		if wholeOf(c.m.St.Bytes) != kept {
			t.Errorf("the bytes of call %d, or the room behind them, were written into", i)
		}
		if !slices.Equal(texts[:cap(texts)], keptTexts) || !slices.Equal(more[:cap(more)], keptMore) {
			t.Errorf("the texts of call %d, or the room behind them, were written into", i)
		}
		if !slices.Equal(table[:cap(table)], keptTable) {
			t.Errorf("the table of call %d, or the room behind it, was written into", i)
		}
	}
}

func TestMirrorsShareNoList(t *testing.T) {
	for i, c := range mirrorCalls() {
		given, givenWord, givenTable := cloneMirror(c.m), cloneMsg(c.w), slices.Clone(c.table)
		answers := mirrorAnswers(c)
		var kept []mirrorAnswer
		for _, a := range answers {
			kept = append(kept, cloneAnswer(a))
		}
		for at, a := range mirrorAnswers(c) { // one list after the other is spoilt, the rest must be as it was
			left := cloneAnswer(a)
			spoilt(a.m.St.Bytes)
			left.m.St.Bytes = bytes.Clone(a.m.St.Bytes)
			if !sameMirrorAnswer(a, left) {
				t.Errorf("answer %d of call %d has lists that share memory with its bytes", at, i)
			}
			overwritten(a.m.St.L.Texts)
			for j, w := range a.said {
				if !sameMsg(w, left.said[j]) {
					t.Errorf("word %d of answer %d of call %d shares its texts with the mirror", j, at, i)
				}
				overwritten(w.Texts)
			}
		}
		if !sameMirror(c.m, given) || !sameMsg(c.w, givenWord) || !slices.Equal(c.table, givenTable) {
			t.Errorf("an answer of call %d shares a list with what was given", i)
		}
		spoilt(c.m.St.Bytes)
		overwritten(c.m.St.L.Texts)
		overwritten(c.w.Texts)
		clear(c.table)
		for at, a := range answers {
			if !sameMirrorAnswer(a, kept[at]) {
				t.Errorf("answer %d of call %d hangs on another one, or on what was given", at, i)
			}
		}
	}
}

func TestMirrorsShareNoText(t *testing.T) {
	for i, c := range mirrorCalls() {
		given := slices.Concat(c.m.St.L.Texts, c.w.Texts, []string{c.m.St.L.H.Root, c.m.Best.Root, c.w.H.Root})
		for _, h := range c.table {
			given = append(given, h.Root)
		}
		for at, a := range mirrorAnswers(c) {
			parts := slices.Concat(a.m.St.L.Texts, []string{a.m.St.L.H.Root, a.m.Best.Root})
			for _, w := range a.said {
				parts = append(append(parts, w.H.Root), w.Texts...)
			}
			for j, p := range parts {
				shared := func(s string) bool { return within(p, s) }
				if slices.ContainsFunc(given, shared) {
					t.Errorf("%.20q of answer %d of call %d is a piece of what was given", p, at, i)
				}
				if slices.ContainsFunc(parts[:j], shared) {
					t.Errorf("%.20q of answer %d of call %d is there twice in one piece of memory", p, at, i)
				}
			}
		}
	}
}

// What stands in the room behind a list is none of it.
func TestTheRoomBehindAMirrorIsNotRead(t *testing.T) {
	texts := leafTexts(6)
	all, table := mirrorOf(texts, 2, 4, 6)
	four, _ := mirrorOf(texts, 2, 4)
	part := cloneMirror(four)
	part.St.L.Texts, part.St.Bytes = all.St.L.Texts[:4], all.St.Bytes[:len(four.St.Bytes)]
	wantRightMirror(t, "room behind", part, table[:2])
	wantWrongMirror(t, "a table with its head behind", part, table[:1])
	wantDeaf(t, "a head behind the table", part, table[:2], headMsg(table[2]))
	wantDeaf(t, "texts behind the log", part, table, askMsg(table[2], 0))
	wantDeaf(t, "texts of a head behind the table", part, table[:2], textsMsg(table[2], 4, texts[4:]))
	wantDeaf(t, "a text behind a word's", part, table, textsMsg(table[2], 4, texts[4:5]))
	wantHear(t, "texts that stand just there", part, table, textsMsg(table[2], 4, texts[4:]), all)
	wantHear(t, "an ask up to a place within", all, table, askMsg(table[1], 2), all, backMsg(textsMsg(table[1], 2, texts[2:4])))
	wantCrash(t, "bytes behind the store's", part, table, math.MaxInt, allSure(four), 2)
}
