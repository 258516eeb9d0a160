package tests

import (
	"fmt"
	"math"
	"slices"
	"strings"
	"testing"

	"loop.example/g00233/impl"
)

// textsOfEntries puts entries, right or not, by the model.
func textsOfEntries(l []impl.Entry) []string {
	var texts []string
	for _, e := range l {
		texts = append(texts, formOf(e))
	}
	return texts
}

func namesOfEntries(l []impl.Entry) []impl.Need {
	var names []impl.Need
	for _, e := range l {
		names = append(names, impl.Need{Path: e.Path, V: e.V})
	}
	return names
}

func cloneClient(c impl.Client) impl.Client {
	own := impl.Client{H: c.H, Roots: slices.Clone(c.Roots), Got: slices.Clone(c.Got)}
	for i, e := range own.Got {
		own.Got[i].Needs = slices.Clone(e.Needs)
	}
	return own
}

func sameClient(a, b impl.Client) bool {
	return a.H == b.H && slices.Equal(a.Roots, b.Roots) && slices.EqualFunc(a.Got, b.Got, sameEntry)
}

func shortlyClient(c impl.Client) string {
	return fmt.Sprintf("{%d %.3x.. %.150q %d of them: %.300q}", c.H.Size, c.H.Root, namesOf(c.Roots), len(c.Got), namesOf(namesOfEntries(c.Got)))
}

func isClientByModel(c impl.Client) bool {
	for _, e := range c.Got {
		if !isEntryByModel(e) {
			return false
		}
	}
	return c.H.Size >= 0 && c.H.Size <= 200 && len(c.H.Root) == 32 && isNeedsByModel(c.Roots) && len(c.Got) <= 60 && len(placesByModel(c.Got)) == len(c.Got)
}

func offerByModel(c impl.Client, s string, i int, path []string) (impl.Client, bool) {
	e, ok := entryByModel(s)
	_, there := findByModel(c.Got, e.Path, e.V)
	if !isClientByModel(c) || !ok || there || len(c.Got) == 60 || !checkInByModel(s, i, c.H.Size, path, c.H.Root) {
		return c, false
	}
	more := cloneClient(c)
	more.Got = append(more.Got, e)
	return more, true
}

// wantedByModel puts a need behind the row only while there is room.
func wantedByModel(c impl.Client) []impl.Need {
	if !isClientByModel(c) {
		return nil
	}
	row, entries := slices.Clone(c.Roots), entriesByModel(c.Got)
	for at := 0; at < len(row); at++ {
		for _, n := range entries[keyByModel(row[at].Path, row[at].V)].Needs {
			if !slices.Contains(row, n) && len(row) < 60 {
				row = append(row, n)
			}
		}
	}
	return lackingByModel(c.Got, row)
}

func resolveByModel(c impl.Client) (string, int) {
	if !isClientByModel(c) {
		return "", impl.ResForm
	}
	row, code := reachByModel(c.Got, c.Roots)
	switch code {
	case impl.SelNone:
		return "", impl.ResNone
	case impl.SelMany:
		return "", impl.ResMany
	}
	return lockedAs(c.H, latestByModel(row)), impl.ResGood
}

func wantWanted(t *testing.T, c impl.Client, want ...impl.Need) {
	t.Helper()
	if got := impl.Wanted(c); !slices.Equal(got, want) {
		t.Errorf("Wanted of %s = %.500q; want %.500q", shortlyClient(c), namesOf(got), namesOf(want))
	}
}

func wantResolved(t *testing.T, c impl.Client, want ...impl.Need) {
	t.Helper()
	wantResolve(t, c, lockedAs(c.H, want), impl.ResGood)
}

func wantUnresolved(t *testing.T, c impl.Client, code int) {
	t.Helper()
	wantResolve(t, c, "", code)
}

func wantResolve(t *testing.T, c impl.Client, want string, code int) {
	t.Helper()
	if text, got := impl.Resolve(c); text != want || got != code {
		t.Errorf("Resolve of %s = %.500q, %d; want %.500q, %d", shortlyClient(c), text, got, want, code)
	}
}

// wantClientLikeModel answers with the code of Resolve.
func wantClientLikeModel(t *testing.T, c impl.Client) int {
	t.Helper()
	if got := impl.ClientOk(c); got != isClientByModel(c) {
		t.Errorf("ClientOk of %s = %v", shortlyClient(c), got)
	}
	wantWanted(t, c, wantedByModel(c)...)
	text, code := resolveByModel(c)
	wantResolve(t, c, text, code)
	return code
}

// wantWrongClient: it is not right, wants nothing, and comes to nothing.
func wantWrongClient(t *testing.T, c impl.Client) {
	t.Helper()
	if isClientByModel(c) {
		t.Errorf("%s is right by the model", shortlyClient(c))
	}
	wantClientLikeModel(t, c)
}

func wantOffer(t *testing.T, c impl.Client, s string, i int, path []string, want impl.Client, ok bool) impl.Client {
	t.Helper()
	got, taken := impl.Offer(c, s, i, path)
	if taken != ok || !sameClient(got, want) {
		t.Errorf("Offer of %.100q at %d, by %d parts, to %s = %s, %v; want %s, %v", s, i, len(path), shortlyClient(c), shortlyClient(got), taken, shortlyClient(want), ok)
	}
	return got
}

// wantTakenOffer: the entry whose text it is comes to be the last one.
func wantTakenOffer(t *testing.T, c impl.Client, s string, i int, path []string, e impl.Entry) impl.Client {
	t.Helper()
	want := cloneClient(c)
	want.Got = append(want.Got, e)
	return wantOffer(t, c, s, i, path, want, true)
}

func wantRefusedOffer(t *testing.T, c impl.Client, s string, i int, path []string) {
	t.Helper()
	wantOffer(t, c, s, i, path, c, false)
}

func wantOfferLikeModel(t *testing.T, c impl.Client, s string, i int, path []string) bool {
	t.Helper()
	want, ok := offerByModel(c, s, i, path)
	wantOffer(t, c, s, i, path, want, ok)
	return ok
}

func wantNew(t *testing.T, table []impl.Head, h impl.Head, roots []impl.Need) impl.Client {
	t.Helper()
	c, ok := impl.ClientNew(table, h, roots)
	if want := (impl.Client{H: h, Roots: roots}); !ok || !sameClient(c, want) {
		t.Errorf("ClientNew of %.300q = %s, %v; want %s, true", fmt.Sprint(h), shortlyClient(c), ok, shortlyClient(want))
	}
	return c
}

func wantNoClient(t *testing.T, table []impl.Head, h impl.Head, roots []impl.Need) {
	t.Helper()
	if c, ok := impl.ClientNew(table, h, roots); ok || !sameClient(c, impl.Client{}) {
		t.Errorf("ClientNew of %.300q and %.300q = %s, %v; want the zero one, false", fmt.Sprint(h), fmt.Sprint(roots), shortlyClient(c), ok)
	}
}

// clientOf begins with the head of these texts, which was signed.
func clientOf(t *testing.T, texts []string, roots []impl.Need) impl.Client {
	t.Helper()
	h := headByModel(texts)
	return wantNew(t, []impl.Head{h}, h, roots)
}

// takeAll offers the entries, whose texts are those of the client's head, in this order of their places.
func takeAll(t *testing.T, c impl.Client, l []impl.Entry, order ...int) impl.Client {
	t.Helper()
	texts := textsOfEntries(l)
	for _, i := range order {
		c = wantTakenOffer(t, c, texts[i], i, inPathByModel(texts, i), l[i])
	}
	return c
}

// upTo gives the places from 0 on.
func upTo(n int) []int {
	var places []int
	for i := range n {
		places = append(places, i)
	}
	return places
}

// shuffled gives the places from 0 on out of order.
func shuffled(n int, below func(int) int) []int {
	places := upTo(n)
	for i := range places {
		k := below(i + 1)
		places[i], places[k] = places[k], places[i]
	}
	return places
}

// madeClient has entries that were taken of an index that has just these.
func madeClient(roots []impl.Need, got []impl.Entry) impl.Client {
	return impl.Client{H: headByModel(textsOfEntries(got)), Roots: roots, Got: got}
}

func TestAClientTakesWhatItWants(t *testing.T) {
	l := selectWorld()
	texts, roots := textsOfEntries(l), needsOf("a@v1.0.0", "b@v1.2.0")
	c := clientOf(t, texts, roots)
	if !impl.ClientOk(c) || len(c.Got) != 0 {
		t.Errorf("a new client is %s", shortlyClient(c))
	}
	wantWanted(t, c, roots...)
	wantUnresolved(t, c, impl.ResNone)
	for _, step := range []struct {
		place  int
		wanted string
	}{
		{0, "b@v1.2.0 b@v1.1.0 c@v1.2.0"},
		{2, "b@v1.1.0 c@v1.2.0 d@v1.4.0"},
		{7, "b@v1.1.0 c@v1.2.0 d@v1.4.0"}, // nothing needs it
		{3, "b@v1.1.0 d@v1.4.0 d@v1.1.0"},
		{6, "b@v1.1.0 d@v1.1.0"},
		{1, "d@v1.3.0 d@v1.1.0"},
		{4, "d@v1.3.0"},
		{5, ""},
	} {
		wantUnresolved(t, c, impl.ResNone)
		c = takeAll(t, c, l, step.place)
		wantWanted(t, c, needsOf(strings.Fields(step.wanted)...)...)
		wantClientLikeModel(t, c)
		wantRefusedOffer(t, c, texts[step.place], step.place, inPathByModel(texts, step.place))
	}
	wantResolved(t, c, needsOf("a@v1.0.0", "b@v1.2.0", "c@v1.2.0", "d@v1.4.0")...)
}

// Promise 18: whatever the order is in which all come, the lock is the same, of what is selected of all.
func TestAClientThatHasAll(t *testing.T) {
	below := numbers(18)
	for _, roots := range [][]impl.Need{nil, needsOf("a@v1.0.0"), needsOf("d@v1.9.0"), needsOf("a@v1.0.0", "b@v1.2.0"), needsOf("a@v1.0.0", "d@v1.9.0"), needsOf("b@v1.1.0", "c@v1.2.0", "d@v1.1.0")} {
		l := selectWorld()
		for range 30 {
			c := takeAll(t, clientOf(t, textsOfEntries(l), roots), l, shuffled(len(l), below)...)
			chosen, code := impl.Select(l, roots)
			if text, got := impl.Resolve(c); code != impl.SelGood || got != impl.ResGood || text != impl.LockText(c.H, chosen) || text == "" {
				t.Errorf("what is selected of %v is %v, %d; the client comes to %q, %d", roots, chosen, code, text, got)
			}
			wantWanted(t, c)
			wantClientLikeModel(t, c)
		}
	}
}

// reachedFirst puts what is needed, by whatever is needed, ahead of all other entries.
func reachedFirst(l []impl.Entry, roots []impl.Need) []impl.Entry {
	row, first := slices.Clone(roots), []impl.Entry{}
	for at := 0; at < len(row); at++ {
		e, ok := findByModel(l, row[at].Path, row[at].V)
		if ok && !slices.ContainsFunc(first, func(other impl.Entry) bool { return sameEntry(other, e) }) {
			first, row = append(first, e), append(row, e.Needs...)
		}
	}
	return append(first, slices.DeleteFunc(slices.Clone(l), func(e impl.Entry) bool {
		return slices.ContainsFunc(first, func(other impl.Entry) bool { return sameEntry(other, e) })
	})...)
}

// clientWorlds hands worlds of at most 60 right entries to ask, no two of one name.
func clientWorlds(ask func(l []impl.Entry, roots []impl.Need)) {
	small, great := 0, 0
	mixedWorlds(func(l []impl.Entry, roots []impl.Need) {
		if len(l) > 60 {
			great++
		} else {
			small++
		}
		if len(l) > 60 && great%6 != 1 || len(l) <= 60 && small%16 != 1 {
			return
		}
		for i := 0; i < len(l); i++ {
			if _, twice := findByModel(l[:i], l[i].Path, l[i].V); twice || !isEntryByModel(l[i]) {
				l = withoutEntry(l, i)
				i--
			}
		}
		l = reachedFirst(l, roots)
		ask(l[:min(len(l), 60)], roots)
	})
}

// Of each world all is offered, out of order, and whatever was taken so far is held against the model.
func TestMixedWorldsAreTakenLikeTheModel(t *testing.T) {
	below := numbers(180)
	var met [4]int
	all := 0
	clientWorlds(func(l []impl.Entry, roots []impl.Need) {
		c := clientOf(t, textsOfEntries(l), roots)
		met[wantClientLikeModel(t, c)]++
		every := 1 + len(l)/5
		for at, place := range shuffled(len(l), below) {
			c = takeAll(t, c, l, place)
			if at%every == 0 {
				met[wantClientLikeModel(t, c)]++
			}
		}
		code := wantClientLikeModel(t, c)
		met[code]++
		chosen, same := impl.Select(l, roots)
		text, _ := impl.Resolve(c)
		if code != same || code == impl.ResGood && text != impl.LockText(c.H, chosen) {
			t.Errorf("with all of them the client comes to %d; what is selected of all to %d", code, same)
		}
		if code == impl.ResGood {
			wantWanted(t, c)
			all++
		}
	})
	if met[impl.ResGood] < 100 || met[impl.ResNone] < 100 || met[impl.ResMany] < 15 || all < 100 {
		t.Errorf("the codes were met so often: %v; %d worlds came to a lock", met, all)
	}
}

// Who asks for what is wanted, and for nothing else, comes to the same lock as who takes all.
func TestWhatIsWantedIsEnough(t *testing.T) {
	locks := 0
	clientWorlds(func(l []impl.Entry, roots []impl.Need) {
		if len(l) > 30 {
			return
		}
		c, names := clientOf(t, textsOfEntries(l), roots), namesOfEntries(l)
		for range len(l) + 1 {
			wanted := impl.Wanted(c)
			at := slices.IndexFunc(wanted, func(n impl.Need) bool { return slices.Contains(names, n) })
			if at < 0 {
				break
			}
			c = takeAll(t, c, l, slices.Index(names, wanted[at]))
		}
		whole, text := resolveByModel(impl.Client{H: c.H, Roots: roots, Got: l})
		wantResolve(t, c, whole, text)
		if text == impl.ResGood {
			locks++
			row, _ := reachByModel(l, roots)
			if len(c.Got) != len(row) {
				t.Errorf("%d entries were taken, where %d are reached", len(c.Got), len(row))
			}
		}
	})
	if locks < 100 {
		t.Errorf("%d worlds alone came to a lock", locks)
	}
}

func TestNoRoots(t *testing.T) {
	l := selectWorld()
	for _, none := range [][]impl.Need{nil, {}, needsOf("a@v1.0.0")[:0]} {
		for _, texts := range [][]string{nil, textsOfEntries(l)} {
			c := clientOf(t, texts, none)
			wantWanted(t, c)
			wantResolved(t, c)
			wantClientLikeModel(t, c)
		}
		c := takeAll(t, clientOf(t, textsOfEntries(l), none), l, 3, 0, 7)
		wantWanted(t, c)
		wantResolved(t, c)
	}
}

// Of an index without texts nothing can be taken.
func TestAnIndexWithoutTexts(t *testing.T) {
	c := clientOf(t, nil, needsOf("a@v1.0.0"))
	wantWanted(t, c, needsOf("a@v1.0.0")...)
	wantUnresolved(t, c, impl.ResNone)
	for _, path := range [][]string{nil, {}, {c.H.Root}, inPathByModel(leafTexts(2), 0)} {
		for _, i := range []int{-1, 0, 1} {
			wantRefusedOffer(t, c, formOf(entryOf("a@v1.0.0")), i, path)
			wantRefusedOffer(t, c, "", i, path)
		}
	}
}

// A root of which there is no entry is wanted to the end, and so is a need.
func TestWhatIsNotThere(t *testing.T) {
	l := []impl.Entry{entryOf("a@v1.0.0", "b@v1.1.0"), entryOf("b@v1.0.0"), entryOf("b@v1.2.0"), entryOf("b/v2@v2.1.0"), entryOf("c@v1.0.0", "a@v1.0.0")}
	for _, c := range []struct{ roots, wanted string }{
		{"z@v1.0.0", "z@v1.0.0"},
		{"b@v1.0.1", "b@v1.0.1"},
		{"b@v1.0.0-rc.1", "b@v1.0.0-rc.1"},
		{"a@v1.0.0", "b@v1.1.0"},
		{"c@v1.0.0", "b@v1.1.0"},
		{"b@v1.2.0 c@v1.0.0 x@v1.0.0", "x@v1.0.0 b@v1.1.0"},
		{"a@v1.0.0 b@v1.1.0 y@v1.0.0 z@v1.0.0", "b@v1.1.0 y@v1.0.0 z@v1.0.0"},
	} {
		client := takeAll(t, clientOf(t, textsOfEntries(l), needsOf(strings.Fields(c.roots)...)), l, 4, 3, 2, 1, 0)
		wantWanted(t, client, needsOf(strings.Fields(c.wanted)...)...)
		wantUnresolved(t, client, impl.ResNone)
		wantClientLikeModel(t, client)
	}
}

// A need is wanted once, where it is met first: as a root, or of whichever entry names it.
func TestNeedsThatAreInTheRowAlready(t *testing.T) {
	l := []impl.Entry{
		entryOf("a@v1.0.0", "b@v1.0.0", "x@v1.0.0", "y@v1.0.0"),
		entryOf("b@v1.0.0", "a@v1.0.0", "w@v1.0.0", "x@v1.0.0"),
		entryOf("c@v1.0.0", "a@v1.0.0", "b@v1.0.0", "x@v1.1.0", "y@v1.0.0"),
		entryOf("y@v1.0.0", "c@v1.0.0", "z@v1.0.0"),
	}
	c := clientOf(t, textsOfEntries(l), needsOf("a@v1.0.0", "c@v1.0.0", "z@v1.0.0"))
	for _, step := range []struct {
		place  int
		wanted string
	}{
		{1, "a@v1.0.0 c@v1.0.0 z@v1.0.0"},
		{2, "a@v1.0.0 z@v1.0.0 x@v1.1.0 y@v1.0.0 w@v1.0.0 x@v1.0.0"},
		{0, "z@v1.0.0 x@v1.0.0 y@v1.0.0 x@v1.1.0 w@v1.0.0"},
		{3, "z@v1.0.0 x@v1.0.0 x@v1.1.0 w@v1.0.0"},
	} {
		c = takeAll(t, c, l, step.place)
		wantWanted(t, c, needsOf(strings.Fields(step.wanted)...)...)
		wantClientLikeModel(t, c)
	}
	ring := []impl.Entry{entryOf("a@v1.0.0", "b@v1.0.0"), entryOf("b@v1.0.0", "a@v1.1.0"), entryOf("a@v1.1.0", "b@v1.0.0")}
	c = takeAll(t, clientOf(t, textsOfEntries(ring), needsOf("a@v1.0.0")), ring, 2, 0, 1)
	wantWanted(t, c)
	wantResolved(t, c, needsOf("a@v1.1.0", "b@v1.0.0")...)
	wantWanted(t, madeClient(needsOf("a@v1.0.0"), ring[:2]), needsOf("a@v1.1.0")...)
}

// A client takes just 60 entries, however many the index has.
func TestJust60Entries(t *testing.T) {
	if impl.ResGood != 0 || impl.ResForm != 1 || impl.ResNone != 2 || impl.ResMany != 3 {
		t.Error("a constant is another one")
	}
	for _, size := range []int{60, 61, 62, 128, 200} {
		l := treeOf(size, 20, 2)
		c := takeAll(t, clientOf(t, textsOfEntries(l), treeNames(0, 20)), l, upTo(60)...)
		if !impl.ClientOk(c) || len(c.Got) != 60 {
			t.Errorf("60 entries of %d are not right", size)
		}
		texts := textsOfEntries(l)
		for i := range l {
			wantRefusedOffer(t, c, texts[i], i, inPathByModel(texts, i))
		}
		wantClientLikeModel(t, c)
		for _, gone := range []int{0, 30, 59} {
			fewer := c
			fewer.Got = withoutEntry(c.Got, gone)
			for _, i := range []int{gone, 60, size - 1} {
				if i == gone || i >= 60 && i < size {
					wantTakenOffer(t, fewer, texts[i], i, inPathByModel(texts, i), l[i])
				}
			}
		}
		more := c
		more.Got = append(slices.Clone(c.Got), entryOf("a@v1.0.0"))
		wantWrongClient(t, more)
	}
	all := treeOf(60, 20, 2)
	c := takeAll(t, clientOf(t, textsOfEntries(all), treeNames(0, 20)), all, upTo(60)...)
	wantWanted(t, c)
	wantResolved(t, c, treeNames(0, 60)...)
}

// Just MaxReach needs may be reached, and of one more it is ResMany; of these no more than MaxReach are wanted.
func TestHowMuchAClientReaches(t *testing.T) {
	for _, shape := range treeShapes {
		for _, size := range []int{21, 40, 59, 60} {
			c := madeClient(treeNames(0, shape.roots), treeOf(size, shape.roots, shape.each))
			wantWanted(t, c)
			wantResolved(t, c, treeNames(0, size)...)
			for _, gone := range []int{0, 1, size / 2, size - 1} {
				fewer := c
				fewer.Got = withoutEntry(c.Got, gone)
				wantUnresolved(t, fewer, impl.ResNone)
				wantClientLikeModel(t, fewer)
			}
		}
		for _, size := range []int{61, 68, 200} {
			l := treeOf(size, shape.roots, shape.each)
			for have := size % 3; have <= 60; have += 2 {
				c := madeClient(treeNames(0, shape.roots), l[:have])
				wantWanted(t, c, treeNames(have, min(60, max(shape.roots, min(size, shape.roots+have*shape.each))))...)
				wantClientLikeModel(t, c)
			}
			wantUnresolved(t, madeClient(treeNames(0, shape.roots), l[:60]), impl.ResMany)
		}
	}
}

// The row ends among the needs of one entry: the first of these are wanted, the others are not, nor what they need.
func TestTheRowOfAClientEnds(t *testing.T) {
	roots := treeNames(0, 20)
	with := func(l []impl.Entry, at int, needs ...impl.Need) []impl.Entry {
		return withEntry(l, at, impl.Entry{Path: l[at].Path, V: l[at].V, Needs: needs})
	}
	bare := treeOf(20, 20, 1)
	l := with(with(with(with(with(bare, 0, treeNames(30, 38)...), 3, treeNames(40, 48)...), 7, treeNames(50, 58)...), 8, treeNames(60, 68)...), 15, treeNames(70, 78)...)
	row := slices.Concat(treeNames(30, 38), treeNames(40, 48), treeNames(50, 58), treeNames(60, 68), treeNames(70, 78))
	wantWanted(t, madeClient(roots, l), row...)
	wantUnresolved(t, madeClient(roots, l), impl.ResNone)

	over := with(l, 19, treeNames(80, 88)...) // there is no room any more
	wantWanted(t, madeClient(roots, over), row...)
	wantUnresolved(t, madeClient(roots, over), impl.ResMany)

	for room := range 9 {
		few := with(over, 15, treeNames(70, 78-room)...)
		wantWanted(t, madeClient(roots, few), slices.Concat(row[:40-room], treeNames(80, 80+room))...)
		wantClientLikeModel(t, madeClient(roots, few))
		again := with(few, 19, slices.Concat(treeNames(60, 62), treeNames(80, 86))...) // what is in the row takes no room
		wantWanted(t, madeClient(roots, again), slices.Concat(row[:40-room], treeNames(80, 80+min(room, 6)))...)
		wantClientLikeModel(t, madeClient(roots, again))
		last := append(slices.Clone(few), impl.Entry{Path: "p080", V: treeName(80).V, Needs: treeNames(90, 98)}) // itself there, so its needs come behind it
		wantClientLikeModel(t, madeClient(roots, last))
		wanted := impl.Wanted(madeClient(roots, last))
		if slices.Contains(wanted, treeName(80)) || slices.ContainsFunc(wanted, func(n impl.Need) bool { return n.Path >= "p090" }) {
			t.Errorf("with room for %d are wanted %v", room, namesOf(wanted))
		}
	}
}

// What the row has no room for is not wanted, though it is lacking; what is there counts for the room all the same.
func TestNeedsBeyondTheRow(t *testing.T) {
	for _, shape := range treeShapes {
		l := treeOf(200, shape.roots, shape.each)
		for _, from := range []int{0, 1, 30, 59} {
			got := slices.Clone(l[from:60])
			c := madeClient(treeNames(0, shape.roots), got)
			wantClientLikeModel(t, c)
			if n := len(impl.Wanted(c)); n > 60 {
				t.Errorf("%d needs are wanted", n)
			}
		}
		slices.Reverse(l[:60])
		wantWanted(t, madeClient(treeNames(0, shape.roots), l[:60])) // the row has room for just these
		wantUnresolved(t, madeClient(treeNames(0, shape.roots), l[:60]), impl.ResMany)
	}
	big := entryOf("a@v1.0.0")
	for i := range 8 {
		big.Needs = append(big.Needs, treeName(100+i))
	}
	roots := append(needsOf("a@v1.0.0"), treeNames(0, 19)...)
	wantWanted(t, madeClient(roots, []impl.Entry{big}), slices.Concat(treeNames(0, 19), big.Needs)...)
}

func TestHeadsThatNoClientBeginsWith(t *testing.T) {
	texts := textsOfEntries(selectWorld())
	h, roots := headByModel(texts), needsOf("a@v1.0.0")
	for _, wrong := range wrongHeads() {
		for _, table := range [][]impl.Head{nil, {wrong}, {h, wrong}} {
			wantNoClient(t, table, wrong, roots)
			wantNoClient(t, table, wrong, nil)
		}
	}
	others := []impl.Head{{Size: h.Size - 1, Root: h.Root}, {Size: h.Size + 1, Root: h.Root}, {Size: 0, Root: h.Root}, headByModel(texts[:7]), headByModel(changed(texts, 7)), headByModel(nil), zeroHead, {Size: h.Size, Root: h.Root[:31]}, {Size: h.Size, Root: h.Root + "\x00"}, {Size: h.Size, Root: impl.HexOf(h.Root)}, {Size: h.Size, Root: strings.Repeat("r", 32)}}
	for _, table := range [][]impl.Head{nil, {}, []impl.Head{h}[:0], others, others[:1], slices.Concat(others, others)} {
		wantNoClient(t, table, h, roots)
		wantNoClient(t, table, h, nil)
	}
	for at := range len(others) + 1 {
		wantNew(t, slices.Insert(slices.Clone(others), at, h), h, roots)
	}
	for i := range 32 {
		turned := []byte(h.Root)
		turned[i] ^= 1
		wantNoClient(t, []impl.Head{h}, impl.Head{Size: h.Size, Root: string(turned)}, roots)
	}
}

// It is not asked whose head it is that was signed: of another one nothing can be proved.
func TestHeadsThatAClientBeginsWith(t *testing.T) {
	for _, size := range []int{0, 1, 2, 199, 200} {
		for _, letter := range []string{"\x00", "a", "\xff"} {
			h := headWith(size, letter)
			c := wantNew(t, []impl.Head{headWith(size, "b"), h, h}, h, needsOf("a@v1.0.0"))
			wantClientLikeModel(t, c)
			for i := range 3 {
				wantRefusedOffer(t, c, formOf(entryOf("a@v1.0.0")), i, nil)
				wantRefusedOffer(t, c, formOf(entryOf("a@v1.0.0")), i, []string{h.Root})
			}
		}
	}
	none := headByModel(nil)
	wantClientLikeModel(t, wantNew(t, []impl.Head{none}, none, needsOf("a@v1.0.0")))
}

func TestRootsThatNoClientBeginsWith(t *testing.T) {
	h := headByModel(textsOfEntries(selectWorld()))
	for _, roots := range wrongRoots() {
		wantNoClient(t, []impl.Head{h}, h, roots)
		wantNoClient(t, nil, h, roots)
		wantNoClient(t, []impl.Head{h}, zeroHead, roots)
	}
	for n := range 21 {
		wantNew(t, []impl.Head{h}, h, treeNames(0, n))
	}
	for _, n := range []int{21, 22, 60, 61} {
		wantNoClient(t, []impl.Head{h}, h, treeNames(0, n))
	}
}

// wrongClients: clients that are not right, each for a reason of its own; the head of most is that of the texts of selectWorld, and was signed.
func wrongClients() []impl.Client {
	l := selectWorld()
	right := madeClient(needsOf("a@v1.0.0", "b@v1.2.0"), l)
	right.Got = right.Got[:5]
	clients := []impl.Client{{}, {H: right.H, Got: make([]impl.Entry, 1)}, {H: right.H, Roots: make([]impl.Need, 1)}}
	for _, h := range append(wrongHeads(), impl.Head{Size: right.H.Size, Root: right.H.Root[:31]}, impl.Head{Size: right.H.Size, Root: right.H.Root + "\x00"}) {
		clients = append(clients, impl.Client{H: h, Roots: right.Roots, Got: right.Got}, impl.Client{H: h})
	}
	for _, roots := range wrongRoots() {
		clients = append(clients, impl.Client{H: right.H, Roots: roots, Got: right.Got}, impl.Client{H: right.H, Roots: roots})
	}
	for i, e := range right.Got {
		other := impl.Entry{Path: e.Path, V: e.V, Needs: needsOf("other@v1.0.0")}
		for _, twice := range append(spoiltEntries(e), e, other, impl.Entry{}) {
			for at := range len(right.Got) + 1 {
				clients = append(clients, impl.Client{H: right.H, Roots: right.Roots, Got: slices.Insert(slices.Clone(right.Got), at, twice)})
			}
		}
		for _, spoilt := range append(spoiltEntries(e), impl.Entry{}, impl.Entry{Path: e.Path, V: impl.Version{Major: 2}}, impl.Entry{Path: e.Path + "/", V: e.V}, impl.Entry{Path: e.Path, V: impl.Version{Major: 1, Pre: "01"}}) {
			clients = append(clients, impl.Client{H: right.H, Roots: right.Roots, Got: withEntry(right.Got, i, spoilt)})
		}
	}
	for _, n := range []int{61, 62, 120, 200, 500} {
		clients = append(clients, impl.Client{H: right.H, Roots: right.Roots, Got: treeOf(n, n, 1)}, impl.Client{H: right.H, Got: treeOf(n, 1, 1)})
	}
	return clients
}

func TestClientsThatAreNotRight(t *testing.T) {
	texts := textsOfEntries(selectWorld())
	for _, c := range wrongClients() {
		wantWrongClient(t, c)
		for i := 5; i < 8; i++ {
			wantRefusedOffer(t, c, texts[i], i, inPathByModel(texts, i))
		}
		wantRefusedOffer(t, c, texts[0], 0, inPathByModel(texts, 0))
		wantRefusedOffer(t, c, "", -1, nil)
	}
	zero := impl.Client{}
	if text, code := impl.Resolve(zero); text != "" || code != impl.ResForm || len(impl.Wanted(zero)) != 0 || impl.ClientOk(zero) {
		t.Error("the zero client is right")
	}
}

// Each entry, each pair of entries, and each root by itself is asked for, up to the limits.
func TestEachPartOfAClientIsAskedFor(t *testing.T) {
	right := madeClient(treeNames(0, 20), treeOf(60, 20, 2))
	wantClientLikeModel(t, right)
	if !impl.ClientOk(right) {
		t.Fatal("the greatest client is not right")
	}
	for i, e := range right.Got {
		for _, spoilt := range spoiltEntries(e) {
			wantWrongClient(t, impl.Client{H: right.H, Roots: right.Roots, Got: withEntry(right.Got, i, spoilt)})
		}
		for k, other := range right.Got {
			if i == k {
				continue
			}
			same := withEntry(right.Got, i, other)
			named := withEntry(right.Got, i, impl.Entry{Path: other.Path, V: other.V})
			if impl.ClientOk(impl.Client{H: right.H, Got: same}) || impl.ClientOk(impl.Client{H: right.H, Got: named}) {
				t.Errorf("the entries %d and %d have one name", i, k)
			}
		}
		apart := e
		apart.V.Patch = 7
		if c := (impl.Client{H: right.H, Roots: right.Roots, Got: withEntry(right.Got, i, apart)}); !impl.ClientOk(c) {
			t.Errorf("%s is not right", shortlyClient(c))
		}
	}
	for i, n := range right.Roots {
		for _, spoilt := range []impl.Need{{}, {Path: n.Path, V: impl.Version{Major: 2}}, {Path: n.Path + "/", V: n.V}, treeName(i + 1), treeName(i - 1), treeName(30 - 20*(i/19))} {
			roots := slices.Clone(right.Roots)
			roots[i] = spoilt
			wantClientLikeModel(t, impl.Client{H: right.H, Roots: roots, Got: right.Got})
		}
	}
}

// One path may be there at several versions; each part of a name tells two entries apart.
func TestEntriesOfOnePath(t *testing.T) {
	var l []impl.Entry
	for _, n := range strangeNames() {
		if isNeedsByModel([]impl.Need{n}) && len(l) < 60 {
			l = append(l, impl.Entry{Path: n.Path, V: n.V})
		}
	}
	if len(l) < 10 {
		t.Fatal("few names are right")
	}
	c := takeAll(t, clientOf(t, textsOfEntries(l), nil), l, upTo(len(l))...)
	for i := range l {
		other := c
		other.Roots = []impl.Need{{Path: l[i].Path, V: l[i].V}}
		wantResolved(t, other, other.Roots...)
		other.Got = withoutEntry(l, i)
		wantWanted(t, other, other.Roots...)
		wantUnresolved(t, other, impl.ResNone)
	}
}

// An index may hold two texts of one name: the one that comes first is the one that counts.
func TestTwoTextsOfOneName(t *testing.T) {
	first, second := entryOf("a@v1.0.0", "b@v1.0.0"), entryOf("a@v1.0.0", "c@v1.0.0")
	l := []impl.Entry{first, entryOf("b@v1.0.0"), second, entryOf("c@v1.0.0"), first, entryOf("a@v1.0.0"), entryOf("a@v1.0.1")}
	texts := textsOfEntries(l)
	begin := clientOf(t, texts, needsOf("a@v1.0.0"))
	for _, taken := range []int{0, 2, 4, 5} {
		c := takeAll(t, begin, l, taken)
		for _, i := range []int{0, 2, 4, 5} {
			wantRefusedOffer(t, c, texts[i], i, inPathByModel(texts, i))
		}
		wantWanted(t, c, l[taken].Needs...)
		c = takeAll(t, c, l, 6, 3, 1)
		wantResolved(t, c, append(needsOf("a@v1.0.0"), l[taken].Needs...)...)
	}
	wantRefusedOffer(t, begin, texts[0], 2, inPathByModel(texts, 2))
	wantTakenOffer(t, begin, texts[0], 4, inPathByModel(texts, 4), first)
	wantRefusedOffer(t, begin, texts[0], 4, inPathByModel(texts, 0))
}

// What is proved to be in the index is still none where it is no entry's text.
func TestTextsThatAreNoEntry(t *testing.T) {
	right := textOf("a@v1.0.0", "b@v1.0.0")
	texts := []string{
		right, "", "a", "a@v1.0.0", right + "\x00", right[1:], right[:len(right)-1], right + right, textOf("a@v1.0.0", "a@v1.1.0"), textOf("a@v1.0.0", "c@v1.0.0", "b@v1.0.0"),
		textOf("a@v2.0.0"), textOf("A@v1.0.0"), textOf("a@1.0.0"), textOf(""), textOf("a@v1.0.0", "b"), strings.Repeat("\xff", 40), impl.LeafHash(right), "\x00" + right, textOf("b@v1.0.0", "a@v1.0.0", "a@v1.0.0"),
	}
	for _, e := range spoiltEntries(entryOf("a@v1.0.0")) {
		texts = append(texts, formOf(e))
	}
	c := clientOf(t, texts, needsOf("a@v1.0.0"))
	for i, s := range texts[1:] {
		wantRefusedOffer(t, c, s, i+1, inPathByModel(texts, i+1))
	}
	c = wantTakenOffer(t, c, right, 0, inPathByModel(texts, 0), entryOf("a@v1.0.0", "b@v1.0.0"))
	for i, s := range texts {
		wantRefusedOffer(t, c, s, i, inPathByModel(texts, i))
	}
}

// A path that does not hold proves nothing, whatever was done to it.
func TestSpoiltPathsAreNotTaken(t *testing.T) {
	for _, size := range []int{1, 2, 3, 5, 8, 13, 64, 65, 200} {
		l := treeOf(size, 1, 1)
		texts := textsOfEntries(l)
		c := clientOf(t, texts, treeNames(0, 1))
		for i := 0; i < size; i += 1 + size/7 {
			path := inPathByModel(texts, i)
			for _, other := range spoiltPaths(path) {
				if !slices.Equal(other, path) {
					wantRefusedOffer(t, c, texts[i], i, other)
				}
			}
			for at := -2; at < size+3; at++ {
				if at != i {
					wantRefusedOffer(t, c, texts[i], at, path)
				}
				if at != i && at >= 0 && at < size {
					wantRefusedOffer(t, c, texts[i], at, inPathByModel(texts, at))
					wantRefusedOffer(t, c, texts[i], i, inPathByModel(texts, at))
					wantRefusedOffer(t, c, texts[at], i, path)
				}
			}
			for _, at := range []int{math.MinInt, math.MaxInt, i - size, i + size, i + 256, -i - 1} {
				wantRefusedOffer(t, c, texts[i], at, path)
			}
			wantTakenOffer(t, c, texts[i], i, path, l[i])
		}
	}
}

// A path to another head proves nothing of this one: to that of fewer or more texts, or of others.
func TestPathsToOtherHeads(t *testing.T) {
	l := treeOf(20, 1, 1)
	texts := textsOfEntries(l)
	for size := 1; size <= 20; size++ {
		c := clientOf(t, texts[:size], nil)
		for other := 1; other <= 20; other++ {
			for i := range other {
				path := inPathByModel(texts[:other], i)
				if ok := wantOfferLikeModel(t, c, texts[i], i, path); ok != (other == size) && size < 3 {
					t.Errorf("the text %d of %d, by a path of %d: %v", i, size, other, ok)
				}
			}
		}
	}
	c := clientOf(t, texts, nil)
	forged := changed(texts, 4)
	forged[4] = formOf(impl.Entry{Path: l[4].Path, V: l[4].V, Needs: needsOf("bad@v1.0.0")})
	wantRefusedOffer(t, c, forged[4], 4, inPathByModel(texts, 4))
	wantRefusedOffer(t, c, forged[4], 4, inPathByModel(forged, 4))
	wantRefusedOffer(t, c, texts[5], 5, inPathByModel(forged, 5))
	wantTakenOffer(t, clientOf(t, forged, nil), forged[4], 4, inPathByModel(forged, 4), impl.Entry{Path: l[4].Path, V: l[4].V, Needs: needsOf("bad@v1.0.0")})
}

// All texts, places and paths of small indexes, each with each, to a client of each of their heads.
func TestAllSmallOffers(t *testing.T) {
	l := []impl.Entry{entryOf("a@v1.0.0", "b@v1.0.0"), entryOf("a@v1.0.0"), entryOf("b@v1.0.0"), entryOf("a@v1.0.0", "b@v1.0.0"), {Path: "B"}, entryOf("c@v1.0.0")}
	texts := textsOfEntries(l)
	var paths [][]string
	for size := 1; size <= len(texts); size++ {
		for i := range size {
			paths = append(paths, inPathByModel(texts[:size], i))
		}
	}
	taken := 0
	for size := range len(texts) + 1 {
		for _, got := range [][]impl.Entry{nil, l[:1], l[1:3], l[4:5], l[5:]} {
			c := impl.Client{H: headByModel(texts[:size]), Roots: needsOf("a@v1.0.0"), Got: got}
			for _, s := range texts {
				for i := -1; i <= size; i++ {
					for _, path := range paths {
						if wantOfferLikeModel(t, c, s, i, path) {
							taken++
						}
					}
				}
			}
		}
	}
	if taken < 30 {
		t.Errorf("%d offers alone were taken", taken)
	}
}

// What a mirror keeps, with the paths that its log gives, is what a client of its head takes.
func TestAClientOfAMirror(t *testing.T) {
	l := selectWorld()
	m, table := mirrorOf(textsOfEntries(l), 3, 8)
	c, ok := impl.ClientNew(table, m.St.L.H, needsOf("a@v1.0.0", "b@v1.2.0"))
	if !ok {
		t.Fatal("the mirror's head was not signed")
	}
	for i, s := range m.St.L.Texts {
		path, _ := impl.ProveIn(m.St.L, i)
		if c, ok = impl.Offer(c, s, i, path); !ok {
			t.Errorf("the text %d was refused", i)
		}
	}
	wantWanted(t, c)
	wantResolved(t, c, needsOf("a@v1.0.0", "b@v1.2.0", "c@v1.2.0", "d@v1.4.0")...)

	old, _ := impl.ClientNew(table, table[0], needsOf("b@v1.2.0"))
	for i, s := range m.St.L.Texts {
		path, _ := impl.ProveIn(m.St.L, i)
		wantRefusedOffer(t, old, s, i, path) // it is a path to the later head
	}
}

// sparedClient gives c with room behind each of its lists, in which all stands that would be sought.
func sparedClient(c impl.Client) impl.Client {
	spare := needsOf("a@v1.0.0", "d@v1.4.0", "zz@v1.0.0")
	return impl.Client{H: c.H, Roots: sparedNeeds(c.Roots, spare...), Got: sparedEntries(c.Got, spare...)}
}

// wholeClient copies all of c, and what stands behind its lists.
func wholeClient(c impl.Client) impl.Client {
	return impl.Client{H: c.H, Roots: slices.Clone(c.Roots[:cap(c.Roots)]), Got: wholeEntries(c.Got)}
}

// overwrittenClient writes over all lists of c, and over the room behind them.
func overwrittenClient(c impl.Client) {
	overwrittenNeeds(c.Roots)
	all := c.Got[:cap(c.Got)]
	for i := range all {
		overwrittenNeeds(all[i].Needs)
		all[i] = impl.Entry{Path: "other", V: impl.Version{Major: 9}, Needs: make([]impl.Need, 1)}
	}
}

// callClients: clients with something to take, right and wrong ones, with room behind their lists.
func callClients() []impl.Client {
	l := selectWorld()
	var clients []impl.Client
	for _, got := range [][]impl.Entry{nil, l[:1], l[1:4], l[:5], slices.Concat(l[:2], l[3:])} {
		for _, roots := range [][]impl.Need{nil, needsOf("a@v1.0.0"), needsOf("a@v1.0.0", "b@v1.2.0"), needsOf("b@v1.1.0", "x@v1.0.0"), needsOf("x@v1.0.0", "b@v1.1.0")} {
			clients = append(clients, sparedClient(impl.Client{H: headByModel(textsOfEntries(l)), Roots: roots, Got: got}))
		}
	}
	return append(clients, sparedClient(impl.Client{H: zeroHead, Roots: needsOf("a@v1.0.0"), Got: l}), sparedClient(impl.Client{H: headByModel(textsOfEntries(l)), Got: append(l[:3:3], l[2])}))
}

func TestClientsAreLeftAlone(t *testing.T) {
	texts := textsOfEntries(selectWorld())
	for _, c := range callClients() {
		kept := wholeClient(c)
		wantClientLikeModel(t, c)
		for i, s := range texts {
			path := spared(inPathByModel(texts, i), "spare", "room")
			keptPath := slices.Clone(path[:cap(path)])
			wantOfferLikeModel(t, c, s, i, path)
			wantRefusedOffer(t, c, s, i+1, path)
			wantRefusedOffer(t, c, s, i, path[:len(path)-1]) // what is behind the path is not read
			if !slices.Equal(path[:cap(path)], keptPath) {
				t.Errorf("the path of %d, or the room behind it, was written into", i)
			}
		}
		table, roots := sparedHeads([]impl.Head{headByModel(nil), c.H}), c.Roots
		keptTable := slices.Clone(table[:cap(table)])
		impl.ClientNew(table, c.H, roots)
		wantNoClient(t, table, table[:cap(table)][2], nil)
		wantNoClient(t, table[:1:2], c.H, roots) // what is behind the table was not signed
		if !slices.Equal(table[:cap(table)], keptTable) {
			t.Error("the table, or the room behind it, was written into")
		}
		if !sameClient(wholeClient(c), kept) {
			t.Errorf("%s, or the room behind it, was written into", shortlyClient(c))
		}
	}
}

// clientAnswers: each client that is answered of c: begun anew, taken, refused.
func clientAnswers(c impl.Client) []impl.Client {
	texts := textsOfEntries(selectWorld())
	begun, _ := impl.ClientNew([]impl.Head{c.H}, c.H, c.Roots)
	answers := []impl.Client{begun}
	for i, s := range texts {
		path := inPathByModel(texts, i)
		got, _ := impl.Offer(c, s, i, path)
		refused, _ := impl.Offer(c, s, i+1, path)
		answers = append(answers, got, refused)
	}
	return answers
}

// What is answered may be written over: neither the client that it came of nor another answer is another one for that.
func TestClientsShareNoList(t *testing.T) {
	for _, c := range callClients() {
		kept := wholeClient(c)
		first, second := clientAnswers(c), clientAnswers(c)
		wanted, again := impl.Wanted(c), impl.Wanted(c)
		var want []impl.Client
		for _, other := range second {
			want = append(want, cloneClient(other))
		}
		for _, other := range first {
			overwrittenClient(other)
		}
		overwrittenNeeds(wanted)
		if !sameClient(wholeClient(c), kept) {
			t.Errorf("an answer shares a list with %s", shortlyClient(kept))
		}
		if !slices.EqualFunc(second, want, sameClient) || !slices.EqualFunc(clientAnswers(c), want, sameClient) {
			t.Errorf("two answers of %s share a list", shortlyClient(c))
		}
		if !slices.Equal(again, wantedByModel(c)) {
			t.Errorf("what is wanted hangs on another answer: %v", namesOf(again))
		}
		wantClientLikeModel(t, c)
	}
}

// No two lists of one answer share memory: each is written over in turn.
func TestListsOfOneClientShareNothing(t *testing.T) {
	for _, c := range callClients() {
		for at := range clientAnswers(c) {
			for place := -1; place < len(clientAnswers(c)[at].Got); place++ {
				got := clientAnswers(c)[at]
				want := cloneClient(got)
				if place < 0 {
					overwrittenNeeds(got.Roots)
					want.Roots = slices.Clone(got.Roots)
				} else {
					overwrittenNeeds(got.Got[place].Needs)
					want.Got[place].Needs = slices.Clone(got.Got[place].Needs)
				}
				if !sameClient(got, want) {
					t.Errorf("the list %d of %s shares memory with another one", place, shortlyClient(want))
				}
			}
		}
	}
}

// An answer stays as it was when what it came of is written over; of one client two others may be made.
func TestClientsOutliveWhatTheyCameOf(t *testing.T) {
	l := selectWorld()
	texts := textsOfEntries(l)
	for n := range len(callClients()) {
		c := callClients()[n]
		answers, wanted := clientAnswers(c), impl.Wanted(c)
		want, wantedThen := clientAnswers(c), wantedByModel(c)
		for i := range want {
			want[i] = cloneClient(want[i])
		}
		overwrittenClient(c)
		if !slices.EqualFunc(answers, want, sameClient) || !slices.Equal(wanted, wantedThen) {
			t.Errorf("the answers of the client %d hang on it", n)
		}
	}
	c := takeAll(t, clientOf(t, texts, needsOf("a@v1.0.0")), l, 0, 1, 2)
	kept := cloneClient(c)
	one, other := takeAll(t, c, l, 3), takeAll(t, c, l, 4)
	if !sameClient(c, kept) || !sameEntry(one.Got[3], l[3]) || !sameEntry(other.Got[3], l[4]) {
		t.Errorf("two clients of one hang on one another: %s, %s", shortlyClient(one), shortlyClient(other))
	}
}

// textsIn: each text that a client holds.
func textsIn(c impl.Client) []string {
	texts := []string{c.H.Root}
	for _, n := range append(slices.Clone(c.Roots), namesIn(c.Got)...) {
		texts = append(texts, n.Path, n.V.Pre)
	}
	return texts
}

func TestClientsShareNoText(t *testing.T) {
	l := []impl.Entry{entryOf("a@v1.0.0-rc.1", "b@v1.0.0-rc.2", "c@v1.0.0-rc.3"), entryOf("b@v1.0.0-rc.2", "d@v1.0.0-rc.4")}
	texts := textsOfEntries(l)
	own := func() impl.Client {
		c := impl.Client{H: impl.Head{Size: 2, Root: strings.Clone(rootByModel(texts))}}
		for _, n := range needsOf("a@v1.0.0-rc.1", "e@v1.0.0-rc.5") {
			c.Roots = append(c.Roots, impl.Need{Path: strings.Clone(n.Path), V: impl.Version{Major: 1, Pre: strings.Clone(n.V.Pre)}})
		}
		c.Got = []impl.Entry{entryOf("a@v1.0.0-rc.1", "b@v1.0.0-rc.2", "c@v1.0.0-rc.3")}
		return c
	}
	c, s := own(), strings.Clone(texts[1])
	path := inPathByModel(texts, 1)
	given := append(textsIn(c), s, path[0])
	begun, _ := impl.ClientNew([]impl.Head{c.H}, c.H, c.Roots)
	taken, ok := impl.Offer(c, s, 1, path)
	refused, _ := impl.Offer(c, s, 0, path)
	if !ok || !sameClient(refused, own()) {
		t.Fatal("the offers are not as they should be")
	}
	answered := slices.Concat(textsIn(begun), textsIn(taken), textsIn(refused))
	for _, n := range impl.Wanted(c) {
		answered = append(answered, n.Path, n.V.Pre)
	}
	for _, text := range answered {
		for _, whole := range given {
			if within(text, whole) {
				t.Errorf("%q, which is answered, is a piece of what was handed in", text)
			}
		}
	}
}
