package tests

import (
	"fmt"
	"math"
	"slices"
	"testing"

	"loop.example/buttery/impl"
)

// whole is an event of which all steps are done, as many as there may ever be.
func whole(kind int, a int, b int) impl.Event {
	return impl.Event{Kind: kind, A: a, B: b, C: 7}
}

// putAt and tellAll are what happens most in plays that are told event by event.
func putAt(addr int, val int) impl.Event {
	return whole(1, addr, val)
}

func tellAll() impl.Event {
	return impl.Event{Kind: 4}
}

// fallen is the event, but that it falls behind so many steps.
func fallen(e impl.Event, cut int, torn bool) impl.Event {
	e.C, e.Torn = cut, torn
	return e
}

// noKinds is numbers that no kind of event has.
func noKinds() []int {
	return []int{0, 5, -1, -4, 6, 257, 1<<32 + 1, math.MinInt, math.MaxInt}
}

// wantPlaySteps is what the document asks of PlaySteps of an ok store.
func wantPlaySteps(s impl.Store, e impl.Event) []impl.Step {
	switch {
	case e.A < 1 || e.A > 6:
		return nil
	case e.Kind == 1:
		return wantToWrite(s, 1, e.A, e.B)
	case e.Kind == 2:
		return wantFlush(s, e.A)
	case e.Kind == 3:
		return wantFill(s, e.A)
	}
	return nil
}

// wantPlay is what the document asks of PlayDo of an ok store.
func wantPlay(s impl.Store, e impl.Event) impl.Store {
	if e.Kind != 4 {
		if e.C < 0 {
			return copyStore(s)
		}
		return wantTo(s, wantPlaySteps(s, e), e.C, e.Torn)
	}
	for addr := 1; addr <= 6; addr++ {
		steps := wantFlush(s, addr)
		s = wantTo(s, steps, len(steps), false)
	}
	return copyStore(s)
}

// mustPlay is PlayDo, held against what the document asks.
func mustPlay(t *testing.T, s impl.Store, e impl.Event) impl.Store {
	t.Helper()
	to := impl.PlayDo(s, e)
	if want := wantPlay(s, e); !sameStore(to, want) {
		t.Fatalf("PlayDo(%v, %+v)\nis   %v,\nnot  %v", s, e, to, want)
	}
	return to
}

// mustRun is PlayRun, which must be true.
func mustRun(t *testing.T, events []impl.Event) impl.Store {
	t.Helper()
	s, ok := impl.PlayRun(events)
	if !ok {
		t.Fatalf("PlayRun of %d events is false", len(events))
	}
	return s
}

// played is an event of a play: the stores ahead of it and behind it, and what the document says of its steps.
type played struct {
	e      impl.Event
	was    impl.Store
	is     impl.Store
	isDone bool
	isTorn bool
}

// playOf is a play, event by event.
func playOf(events []impl.Event) []played {
	var all []played
	s := impl.StoreNew()
	for _, e := range events {
		steps := wantPlaySteps(s, e)
		p := played{e: e, was: s, is: impl.PlayDo(s, e)}
		p.isDone = len(steps) > 0 && e.C >= len(steps)
		p.isTorn = e.Torn && e.C >= 0 && e.C < len(steps)
		all = append(all, p)
		s = p.is
	}
	return all
}

// playSort is what may happen in plays of a sort: of which kinds, at how many addresses, behind how many steps it falls, and
// one of how many is torn, 0 if none is.
type playSort struct {
	name  string
	kinds []int
	addrs int
	cuts  []int
	torn  int
}

// someEvent is an event of such a sort.
func (p playSort) someEvent(next func(int) int) impl.Event {
	e := impl.Event{Kind: p.kinds[next(len(p.kinds))], A: 1 + next(p.addrs), B: next(10), C: p.cuts[next(len(p.cuts))]}
	e.Torn = p.torn > 0 && next(p.torn) == 0
	return e
}

// plays is plays of such a sort: of as many events as there may be, and of fewer.
func (p playSort) plays(howMany int) [][]impl.Event {
	next := steadyNumbers(uint32(61 + len(p.name)))
	var all [][]impl.Event
	for n := range howMany {
		size := 60
		if n%3 == 2 {
			size = next(61)
		}
		var events []impl.Event
		for range size {
			events = append(events, p.someEvent(next))
		}
		all = append(all, events)
	}
	return all
}

// uncutSorts is sorts of plays none of which is cut; that an event is torn behind its last step must not show.
func uncutSorts() []playSort {
	all := []int{7, 8, 60, math.MaxInt}
	return []playSort{
		{"not cut", []int{1, 1, 1, 1, 2, 3}, 6, all, 2},
		{"not cut, and all is told", []int{1, 1, 1, 1, 2, 3, 4}, 6, all, 2},
		{"puts alone", []int{1}, 6, []int{7}, 0},
		{"puts alone at one address", []int{1}, 1, []int{7}, 0},
		{"not cut, at two addresses", []int{1, 1, 2, 3, 4}, 2, all, 3},
	}
}

// cutSorts is sorts of plays that fall between two steps, but none of which is torn.
func cutSorts() []playSort {
	return []playSort{
		{"cut", []int{1, 1, 1, 2, 3}, 6, []int{-1, 0, 1, 2, 3, 4, 5, 6, 7, 7, 7}, 0},
		{"cut at the wipe, at three addresses", []int{1, 1, 2, 3, 4}, 3, []int{1, 1, 2, 2, 3}, 0},
	}
}

// tornSorts is sorts of plays in which steps are torn.
func tornSorts() []playSort {
	any := []int{-1, 0, 1, 2, 3, 4, 5, 6, 7, 7, 7}
	return []playSort{
		{"torn anywhere", []int{1, 1, 1, 2, 3}, 6, any, 2},
		{"torn anywhere, and all is told", []int{1, 1, 1, 2, 3, 4}, 6, any, 2},
		{"torn at one or two addresses", []int{1, 1, 2, 3, 4}, 2, any, 2},
		{"torn or done", []int{1, 1, 1, 2}, 6, []int{0, 7, 7}, 1},
		{"torn at once for the most part", []int{1, 1, 2, 3}, 4, []int{0, 0, 0, 7}, 1},
		{"torn at one address", []int{1}, 1, []int{0, 1, 2, 7, 7}, 1},
		{"torn far in, at five addresses", []int{1, 1, 2}, 5, []int{1, 2, 3, 4, 5, 6, 7, 7, 7, 7}, 1},
		{"wrong ones between", []int{1, 1, 1, 2, 3, 4, 0, 5}, 8, any, 2},
	}
}

// allSorts is all of them.
func allSorts() []playSort {
	return slices.Concat(uncutSorts(), cutSorts(), tornSorts())
}

// playsOf is some plays of each of the sorts.
func playsOf(sorts []playSort) [][]impl.Event {
	var all [][]impl.Event
	for _, sort := range sorts {
		all = append(all, sort.plays(9)...)
	}
	return all
}

// playedStores is stores that plays leave, and what stands ahead of their ends.
func playedStores() []impl.Store {
	var all []impl.Store
	for _, events := range playsOf(allSorts()) {
		for i, p := range playOf(events) {
			if i%9 == 8 || i == len(events)-1 {
				all = append(all, p.is)
			}
		}
	}
	return all
}

// eventsOf is an event of each kind at an address.
func eventsOf(addr int, val int) []impl.Event {
	return []impl.Event{whole(1, addr, val), whole(2, addr, val), whole(3, addr, val), whole(4, addr, val)}
}

func TestEventsAreThoseOfTheDocument(t *testing.T) {
	if impl.EvPut != 1 || impl.EvFlush != 2 || impl.EvFill != 3 || impl.EvAll != 4 || impl.PlayMax != 60 {
		t.Error(impl.EvPut, impl.EvFlush, impl.EvFill, impl.EvAll, impl.PlayMax)
	}
}

func TestPlayStepsAreAsTheDocumentSays(t *testing.T) {
	counts := map[int]int{}
	for i, s := range stepStores() {
		for addr := i % 2; addr <= 7; addr += 2 {
			for _, e := range eventsOf(addr, (i+addr)%10) {
				// How many of them are done is no matter of which they are.
				e = fallen(e, []int{7, 0, -1, 1, math.MinInt, math.MaxInt}[(i+addr)%6], i%2 == 0)
				steps := impl.PlaySteps(s, e)
				mustSteps(t, fmt.Sprintf("PlaySteps %+v", e), s, steps, wantPlaySteps(s, e))
				if len(steps) > 0 {
					counts[e.Kind]++
				}
			}
		}
	}
	if counts[1] < 1000 || counts[2] < 500 || counts[3] < 500 || counts[4] != 0 {
		t.Errorf("of the kinds so many have steps: %v", counts)
	}
}

func TestPlayStepsAreThoseOfTheStepsFunctions(t *testing.T) {
	for i, s := range fewStores() {
		for _, addr := range append(noAddrs(), 1, 2, 3, 4, 5, 6) {
			for _, val := range append(noVals(), 0, i%10, 9) {
				steps := func(kind int) []impl.Step {
					return impl.PlaySteps(s, impl.Event{Kind: kind, A: addr, B: val})
				}
				mustSteps(t, "EvPut", s, steps(impl.EvPut), impl.StepsPut(s, addr, val))
				mustSteps(t, "EvFlush", s, steps(impl.EvFlush), impl.StepsFlush(s, addr))
				mustSteps(t, "EvFill", s, steps(impl.EvFill), impl.StepsFill(s, addr))
				mustSteps(t, "EvAll", s, steps(impl.EvAll), nil)
			}
		}
	}
}

// mustKeep says that a store is ok, and has what another one had, but that a value may have been put.
func mustKeep(t *testing.T, was impl.Store, e impl.Event, to impl.Store) {
	t.Helper()
	vals, got := wantValues(was), impl.StoreAll(to)
	if !impl.StoreOk(to) || len(got) != 6 {
		t.Fatalf("PlayDo(%v, %+v) is not ok: %v", was, e, to)
	}
	for i, val := range vals {
		isPut := e.Kind == 1 && e.A == i+1 && got[i] == e.B
		if got[i] != val && !isPut {
			t.Fatalf("PlayDo(%v, %+v): values %v, not %v", was, e, got, vals)
		}
	}
}

// everyFall calls what is wanted with the event that falls at each of its steps, ahead of them and past them, torn and not.
func everyFall(s impl.Store, e impl.Event, then func(e impl.Event)) {
	last := len(wantPlaySteps(s, e)) + 1
	cuts := []int{math.MinInt, -1, math.MaxInt}
	for cut := 0; cut <= last; cut++ {
		cuts = append(cuts, cut)
	}
	for _, cut := range cuts {
		then(fallen(e, cut, false))
		then(fallen(e, cut, true))
	}
}

func TestP60WhateverFallsNothingIsLost(t *testing.T) {
	for i, s := range append(stepStores(), eldestAllDirty(), allDirty(), allClean()) {
		for _, e := range eventsOf(1+i%6, i*3%10)[:3] {
			everyFall(s, e, func(e impl.Event) {
				mustKeep(t, s, e, impl.PlayDo(s, e))
			})
		}
		mustKeep(t, s, tellAll(), mustPlay(t, s, tellAll()))
	}
}

func TestP60AWholePutIsRead(t *testing.T) {
	tried := 0
	for i, s := range stepStores() {
		e := putAt(1+i%6, i*7%10)
		steps := wantPlaySteps(s, e)
		want := wantValues(s)
		if len(steps) > 0 {
			tried++
			want[e.A-1] = e.B
		}
		mustHave(t, "done", impl.PlayDo(s, e), want)
		mustHave(t, "done, with just as many", impl.PlayDo(s, fallen(e, len(steps), true)), want)
		if len(steps) > 0 {
			mustHave(t, "one less", impl.PlayDo(s, fallen(e, len(steps)-1, false)), wantValues(s))
			mustHave(t, "the last torn", impl.PlayDo(s, fallen(e, len(steps)-1, true)), wantValues(s))
		}
	}
	if tried < 500 {
		t.Errorf("just %d were put", tried)
	}
}

func TestP61PlayDoIsStepsToOfPlaySteps(t *testing.T) {
	for i, s := range append(stepStores(), eldestAllDirty()) {
		events := append(eventsOf(1+i%6, i%10)[:3], whole(noKinds()[i%9], 1+i%6, i%10), putAt(noAddrs()[i%9], 1), putAt(1, noVals()[i%7]))
		for _, e := range events {
			everyFall(s, e, func(e impl.Event) {
				got := impl.PlayDo(s, e)
				want := s
				if e.C >= 0 {
					want = mustTo(t, s, impl.PlaySteps(s, e), e.C, e.Torn)
				}
				if !sameStore(got, want) {
					t.Fatalf("PlayDo(%v, %+v)\nis   %v,\nnot  %v", s, e, got, want)
				}
			})
		}
	}
}

func TestP61BelowNoneNothingChanges(t *testing.T) {
	for i, s := range append(stepStores(), eldestAllDirty()) {
		for _, e := range eventsOf(1+i%6, i%10)[:3] {
			for _, cut := range []int{-1, -2, -7, -60, math.MinInt32, math.MinInt} {
				for _, torn := range []bool{false, true} {
					if to := impl.PlayDo(s, fallen(e, cut, torn)); !sameStore(to, s) {
						t.Fatalf("PlayDo(%v, %+v) is %v", s, fallen(e, cut, torn), to)
					}
				}
			}
		}
	}
}

func TestAStepThatIsTornWhenAllAreDone(t *testing.T) {
	counts := map[int]int{}
	for i, s := range append(stepStores(), eldestAllDirty()) {
		for _, e := range eventsOf(1+i%6, i*3%10) {
			size := len(wantPlaySteps(s, e))
			done := wantPlay(s, fallen(e, size, false))
			for _, cut := range []int{size, size + 1, 60, math.MaxInt} {
				if to := impl.PlayDo(s, fallen(e, cut, true)); !sameStore(to, done) {
					t.Fatalf("PlayDo(%v, %+v)\nis   %v,\nnot  %v", s, fallen(e, cut, true), to, done)
				}
			}
			if size > 0 {
				counts[e.Kind]++
			}
		}
	}
	if counts[1] < 500 || counts[2] < 200 || counts[3] < 100 {
		t.Errorf("of the kinds so many have steps: %v", counts)
	}
}

func TestEachStepOfAnEventTorn(t *testing.T) {
	s := eldestAllDirty()
	e := whole(2, 6, 0)
	// The slow disk is told 8 of 6, and what just the eldest block has: 5, 2, 4 and 1; it is wiped, and written.
	disks := [][]int{{9, 9, 9, 9, 9, 9}, {9, 9, 9, 9, 9, 8}, {9, 9, 9, 9, 1, 8}, {9, 2, 9, 9, 1, 8}, {9, 2, 9, 3, 1, 8}, {0, 2, 9, 3, 1, 8}}
	full, wiped, torn := s.Flash[2].Pages, make([]impl.Page, 4), []impl.Page{tornPage(), tornPage(), tornPage(), tornPage()}
	written := []impl.Page{livePage(cleanRec(117, 6, 8)), {}, {}, {}}
	for _, c := range []struct {
		cut   int
		torn  bool
		disk  []int
		pages []impl.Page
		worn  int
	}{
		{0, false, disks[0], full, 199}, {0, true, disks[0], full, 199},
		{1, false, disks[1], full, 199}, {1, true, disks[1], full, 199},
		{2, false, disks[2], full, 199}, {2, true, disks[2], full, 199},
		{3, false, disks[3], full, 199}, {3, true, disks[3], full, 199},
		{4, false, disks[4], full, 199}, {4, true, disks[4], full, 199},
		{5, false, disks[5], full, 199}, {5, true, disks[5], torn, 200},
		{6, false, disks[5], wiped, 200}, {6, true, disks[5], []impl.Page{tornPage(), {}, {}, {}}, 200},
		{7, false, disks[5], written, 200}, {7, true, disks[5], written, 200},
		{8, false, disks[5], written, 200}, {8, true, disks[5], written, 200},
		{-1, true, disks[0], full, 199},
	} {
		want := copyStore(s)
		want.Disk, want.Flash[2] = c.disk, impl.Block{Pages: c.pages, Worn: c.worn}
		to := impl.PlayDo(s, fallen(e, c.cut, c.torn))
		if !sameStore(to, want) {
			t.Errorf("cut at %d, torn %v: %v, not %v", c.cut, c.torn, to, want)
		}
		mustHave(t, "whatever falls", to, []int{0, 2, 9, 3, 1, 8})
	}
}

func TestP62PlayRunIsPlayDoOfEach(t *testing.T) {
	for _, events := range playsOf(allSorts()) {
		got, want := impl.StoreNew(), impl.StoreNew()
		for i, e := range events {
			got, want = impl.PlayDo(got, e), wantPlay(want, e)
			if i%5 > 0 && i < len(events)-1 {
				continue
			}
			run := mustRun(t, events[:i+1])
			if !sameStore(run, got) || !sameStore(run, want) {
				t.Fatalf("PlayRun(%+v)\nis   %v,\nPlayDo of each %v,\nnot  %v", events[:i+1], run, got, want)
			}
		}
	}
}

func TestPlaysThatAreTold(t *testing.T) {
	s := mustRun(t, []impl.Event{putAt(2, 7), fallen(putAt(2, 8), 0, true), putAt(3, 1), fallen(whole(2, 3, 0), 1, true), whole(3, 5, 0), fallen(putAt(6, 6), 0, false)})
	want := impl.Store{Flash: impl.FlashNew(), Disk: []int{0, 0, 1, 0, 0, 0}}
	want.Flash[0].Pages = []impl.Page{livePage(dirtyRec(1, 2, 7)), tornPage(), livePage(dirtyRec(2, 3, 1)), tornPage()}
	want.Flash[1].Pages[0] = livePage(cleanRec(3, 5, 0))
	if !sameStore(s, want) {
		t.Fatalf("%v, not %v", s, want)
	}
	mustRead(t, s, []int{0, 7, 1, 0, 0, 0}, []int{2, 3})
	want.Disk[1] = 7
	want.Flash[1].Pages[1], want.Flash[1].Pages[2] = livePage(cleanRec(4, 2, 7)), livePage(cleanRec(5, 3, 1))
	if all := impl.PlayDo(s, tellAll()); !sameStore(all, want) {
		t.Errorf("EvAll leaves %v, not %v", all, want)
	}
}

func TestASeventeenthPutWipesTheFirstBlock(t *testing.T) {
	var events []impl.Event
	want := impl.StoreNew()
	for n := 1; n <= 17; n++ {
		events = append(events, putAt(4, n%10))
		want.Flash[(n-1)/4%4].Pages[(n-1)%4] = livePage(dirtyRec(n, 4, n%10))
	}
	want.Flash[0] = impl.Block{Pages: []impl.Page{livePage(dirtyRec(17, 4, 7)), {}, {}, {}}, Worn: 1}
	if s := mustRun(t, events); !sameStore(s, want) {
		t.Errorf("%v, not %v", s, want)
	}
}

// mustNotLose says that behind each event of a play each address has what was put there last with all steps.
func mustNotLose(t *testing.T, events []impl.Event) {
	t.Helper()
	vals := make([]int, 6)
	for i, p := range playOf(events) {
		// All or nothing: what was begun to be put is read just if its last step was done.
		if p.e.Kind == 1 && p.isDone {
			vals[p.e.A-1] = p.e.B
		}
		if got := impl.StoreAll(p.is); !impl.StoreOk(p.is) || !slices.Equal(got, vals) {
			t.Fatalf("behind %+v: %v: values %v, not %v", events[:i+1], p.is, got, vals)
		}
	}
}

func TestP63WhatWasPutLastIsRead(t *testing.T) {
	for _, events := range playsOf(allSorts()) {
		mustNotLose(t, events)
	}
}

// steadyPlay is a play none of which is cut, with enough puts that each block is wiped.
func steadyPlay(size int) []impl.Event {
	return playSort{"steady", []int{1, 1, 1, 1, 1, 2, 3}, 6, []int{7}, 0}.plays(1)[0][:size]
}

func TestP63FallingAtEachStepOfEachEvent(t *testing.T) {
	base := steadyPlay(36)
	for at := range base {
		for cut := 0; cut <= 7; cut++ {
			events := slices.Clone(base)
			events[at] = fallen(base[at], cut, true)
			mustNotLose(t, events)
			events[at].Torn = false
			mustNotLose(t, events[:min(at+2, len(events))])
		}
	}
}

func TestP63FallingTwiceWhereABlockIsWiped(t *testing.T) {
	// The first block has the last of 1 to 4, all others 5 and 6: what is next tells the slow disk four values, and wipes it.
	base := []impl.Event{putAt(1, 1), putAt(2, 2), putAt(3, 3), putAt(4, 4)}
	for n := 0; n < 12; n++ {
		base = append(base, putAt(5+n%2, n%10))
	}
	if s := mustRun(t, base); len(impl.StepsPut(s, 1, 1)) != 6 || len(impl.StepsFlush(s, 6)) != 7 {
		t.Fatalf("%v is not wiped next", s)
	}
	next := []impl.Event{putAt(1, 9), putAt(6, 8), whole(2, 3, 0), whole(2, 6, 0)}
	for n := 0; n < 16*16*16; n++ {
		one, two := fallen(next[n/256%4], n%8, n/8%2 == 0), fallen(next[n/1024], n/16%8, n/128%2 == 0)
		mustNotLose(t, append(slices.Clone(base), one, two, putAt(2, 7), whole(2, 4, 0)))
	}
}

func TestP63NoneWasPut(t *testing.T) {
	for addr := 1; addr <= 6; addr++ {
		for cut := -1; cut <= 0; cut++ {
			for _, torn := range []bool{false, true} {
				events := slices.Repeat([]impl.Event{fallen(putAt(addr, 9), cut, torn)}, 60)
				mustHave(t, "begun alone", mustRun(t, events), make([]int, 6))
			}
		}
	}
}

func TestP64WhatIsNotPutStays(t *testing.T) {
	next := steadyNumbers(71)
	any := tornSorts()[1]
	for i, s := range playedStores() {
		addr := 1 + i%6
		val := impl.StoreRead(s, addr)
		for n := 0; n < 25; n++ {
			e := any.someEvent(next)
			if e.Kind == 1 && e.A == addr {
				e.Kind = 2 + next(3)
			}
			s = impl.PlayDo(s, e)
			if got := impl.StoreRead(s, addr); got != val {
				t.Fatalf("%d had %d, but behind %+v it has %d: %v", addr, val, e, got, s)
			}
		}
	}
}

func TestP64BlocksThatAreWipedAround(t *testing.T) {
	for addr := 1; addr <= 6; addr++ {
		for cut := 0; cut <= 7; cut++ {
			s := mustRun(t, []impl.Event{putAt(addr, 7)})
			for n := 0; n < 100; n++ {
				e := putAt(1+(addr+n%5)%6, n%10)
				if n%4 == 3 {
					e = fallen(e, cut, n%8 == 7)
				}
				s = impl.PlayDo(s, e)
				if got := impl.StoreRead(s, addr); got != 7 {
					t.Fatalf("%d had 7, but behind %d puts of others it has %d: %v", addr, n+1, got, s)
				}
			}
		}
	}
}

func TestP65BehindEvAllNothingIsDirty(t *testing.T) {
	counts := map[int]int{}
	for _, events := range playsOf(allSorts()) {
		for i, p := range playOf(events) {
			vals := wantValues(p.is)
			all := impl.PlayDo(p.is, tellAll())
			mustHave(t, "told all", all, vals)
			if dirty := impl.StoreDirty(all); len(dirty) != 0 || !slices.Equal(all.Disk, vals) {
				t.Fatalf("behind %+v and EvAll %v are dirty, the slow disk has %v, not %v", events[:i+1], dirty, all.Disk, vals)
			}
			counts[len(wantDirty(p.is))]++
		}
		if len(events) < 60 {
			run := mustRun(t, append(slices.Clone(events), tellAll()))
			if len(impl.StoreDirty(run)) != 0 || !slices.Equal(run.Disk, wantValues(mustRun(t, events))) {
				t.Fatalf("PlayRun(%+v and EvAll) is %v", events, run)
			}
		}
	}
	for dirty := 0; dirty <= 6; dirty++ {
		if counts[dirty] < 20 {
			t.Errorf("just %d stores with %d dirty addresses", counts[dirty], dirty)
		}
	}
}

// evAlls is EvAll with whatever else an event has.
func evAlls() []impl.Event {
	var all []impl.Event
	for _, cut := range []int{math.MinInt, -1, 0, 1, 2, 3, 7, 60, math.MaxInt} {
		for _, a := range []int{0, 3, 6, 7, -1} {
			all = append(all, impl.Event{Kind: 4, A: a, B: a * 3, C: cut}, impl.Event{Kind: 4, A: a, B: a * 3, C: cut, Torn: true})
		}
	}
	return all
}

func TestEvAllWhateverElseTheEventHas(t *testing.T) {
	for _, s := range append(fewStores(), eldestAllDirty(), allDirty()) {
		want := wantPlay(s, tellAll())
		for _, e := range evAlls() {
			if to := impl.PlayDo(s, e); !sameStore(to, want) {
				t.Fatalf("PlayDo(%v, %+v)\nis   %v,\nnot  %v", s, e, to, want)
			}
			mustSteps(t, fmt.Sprintf("PlaySteps %+v", e), s, impl.PlaySteps(s, e), nil)
		}
	}
}

func TestEvAllOfABlockThatIsWipedMeanwhile(t *testing.T) {
	// The flush of 1 wipes the block that has 5, 2, 4 and 1: of these the slow disk is told, so that just 6 is dirty then.
	s := eldestAllDirty()
	want := copyStore(s)
	want.Disk = []int{0, 2, 9, 3, 1, 8}
	want.Flash[2] = impl.Block{Pages: []impl.Page{livePage(cleanRec(117, 1, 0)), livePage(cleanRec(118, 6, 8)), {}, {}}, Worn: 200}
	if to := impl.PlayDo(s, tellAll()); !sameStore(to, want) {
		t.Errorf("%v, not %v", to, want)
	}
}

func TestEvAllIsAscending(t *testing.T) {
	// Written in the order 5 2 6 1 4 3.
	to := impl.PlayDo(allDirty(), tellAll())
	want := allDirty()
	want.Disk = wantValues(want)
	for n, val := range want.Disk {
		want.Flash[1+(n+2)/4].Pages[(n+2)%4] = livePage(cleanRec(7+n, n+1, val))
	}
	if !sameStore(to, want) {
		t.Errorf("%v, not %v", to, want)
	}
}

func TestEvAllOfWhatCannotBeFlushed(t *testing.T) {
	worn, used := eldestAllDirty(), allDirty()
	worn.Flash[2].Worn = 200
	used.Flash[1].Pages[1].Rec.Seq = 600
	for name, s := range map[string]impl.Store{"worn out": worn, "numbers used up": used} {
		if to := impl.PlayDo(s, tellAll()); !sameStore(to, s) {
			t.Errorf("%s: %v, not %v", name, to, s)
		}
	}
	// There are two numbers more: of the six that are dirty the first two are flushed, and no other one is touched.
	used.Flash[1].Pages[1].Rec.Seq = 598
	to := impl.PlayDo(used, tellAll())
	want := copyStore(used)
	want.Disk[0], want.Disk[1] = 4, 9
	want.Flash[1].Pages[2], want.Flash[1].Pages[3] = livePage(cleanRec(599, 1, 4)), livePage(cleanRec(600, 2, 9))
	if !sameStore(to, want) {
		t.Errorf("%v, not %v", to, want)
	}
	mustRead(t, to, wantValues(used), []int{3, 4, 5, 6})
}

func TestP66BlocksAreWornAlike(t *testing.T) {
	for _, events := range playsOf(allSorts()) {
		torn := 0
		for i, p := range playOf(events) {
			if p.isTorn {
				torn++
			}
			if spread := impl.WearSpread(p.is.Flash); spread < 0 || spread > 1+torn {
				t.Fatalf("behind %+v, %d torn, WearSpread is %d: %v", events[:i+1], torn, spread, p.is)
			}
		}
	}
}

func TestP66OneMoreForEachThatIsTorn(t *testing.T) {
	for torn := 0; torn <= 43; torn++ {
		var events []impl.Event
		for n := 0; n < 16; n++ {
			events = append(events, putAt(3, n%10))
		}
		for n := 0; n < torn; n++ {
			events = append(events, fallen(putAt(3, 5), 0, true))
		}
		s := mustRun(t, append(events, putAt(3, 8)))
		mustWear(t, fmt.Sprint(torn, " wipes that fell"), s.Flash, wearOf{torn + 1, torn + 1, 0})
		mustHave(t, "put behind them", s, []int{0, 0, 8, 0, 0, 0})
	}
}

func TestP66FallingAtEachStepWhereBlocksAreWiped(t *testing.T) {
	for cut := 0; cut <= 6; cut++ {
		for every := 2; every <= 9; every++ {
			var events []impl.Event
			for n := 0; n < 60; n++ {
				e := putAt(1+n*5%6, n%10)
				if n >= 14 && n%every == 0 {
					e = fallen(e, cut, true)
				}
				events = append(events, e)
			}
			torn := 0
			for _, p := range playOf(events) {
				if p.isTorn {
					torn++
				}
				if spread := impl.WearSpread(p.is.Flash); spread > 1+torn {
					t.Fatalf("cut %d, each %d: %d torn, WearSpread is %d: %v", cut, every, torn, spread, p.is)
				}
			}
			mustNotLose(t, events)
		}
	}
}

func TestP67PutsBehindAPlayAreAllRead(t *testing.T) {
	next := steadyNumbers(73)
	for i, s := range playedStores() {
		vals := wantValues(s)
		for n := 0; n < 16+i%9; n++ {
			addr, val := 1+next(6), next(10)
			if i%7 == 0 {
				addr = 1 + i%6
			}
			s = impl.PlayDo(s, putAt(addr, val))
			vals[addr-1] = val
			if got := impl.StoreAll(s); !slices.Equal(got, vals) {
				t.Fatalf("%d of %d was put: values %v, not %v: %v", val, addr, got, vals, s)
			}
		}
	}
}

func TestP68WithoutATornStepNoPageIsTorn(t *testing.T) {
	wiped := 0
	for _, events := range playsOf(append(uncutSorts(), cutSorts()...)) {
		for i, p := range playOf(events) {
			if p.isTorn {
				t.Fatalf("%+v of %v is torn", p.e, p.was)
			}
			spread, lost := impl.WearSpread(p.is.Flash), impl.WearLost(p.is.Flash)
			if lost != 0 || spread < 0 || spread > 1 {
				t.Fatalf("behind %+v %d pages are torn, WearSpread is %d: %v", events[:i+1], lost, spread, p.is)
			}
		}
		wiped = max(wiped, impl.WearAll(mustRun(t, events).Flash))
	}
	if wiped < 11 {
		t.Errorf("blocks were wiped at most %d times", wiped)
	}
}

func TestP69NumbersAreAtMostAsManyAsEvents(t *testing.T) {
	told := 0
	for _, events := range playsOf(allSorts()) {
		most := 1
		for i, p := range playOf(events) {
			// EvAll writes a record of each that it flushes; all else writes one.
			if p.e.Kind == 4 {
				most += len(wantDirty(p.was))
				told++
			} else {
				most++
			}
			if next := impl.FindNext(p.is.Flash); !impl.FindOrder(p.is.Flash) || next > most || next < 1 {
				t.Fatalf("behind %+v the next number is %d, FindOrder %v: %v", events[:i+1], next, impl.FindOrder(p.is.Flash), p.is)
			}
		}
	}
	if told < 100 {
		t.Errorf("just %d were EvAll", told)
	}
}

func TestP69ThatManyAreMet(t *testing.T) {
	for size := 0; size <= 60; size++ {
		var events []impl.Event
		for n := range size {
			events = append(events, putAt(1+n%6, n%10))
		}
		s := mustRun(t, events)
		if next := impl.FindNext(s.Flash); next != size+1 || !impl.FindOrder(s.Flash) {
			t.Fatalf("%d puts: the next number is %d: %v", size, next, s)
		}
	}
}

// idle is events that change nothing, whatever the store is: of no kind, of no address, of no value, or falling ahead of all.
func idle() []impl.Event {
	var all []impl.Event
	for _, kind := range noKinds() {
		all = append(all, whole(kind, 1, 1), whole(kind, 0, 0), fallen(whole(kind, 2, 5), 0, true), fallen(whole(kind, 3, 1), 1, true))
	}
	for _, addr := range noAddrs() {
		for kind := 1; kind <= 3; kind++ {
			all = append(all, whole(kind, addr, 1), fallen(whole(kind, addr, 1), 0, true), fallen(whole(kind, addr, 1), 1, true))
		}
	}
	for _, val := range noVals() {
		all = append(all, putAt(1, val), fallen(putAt(6, val), 0, true), fallen(putAt(3, val), 1, false))
	}
	for kind := 1; kind <= 3; kind++ {
		all = append(all, fallen(whole(kind, 4, 4), -1, true), fallen(whole(kind, 4, 4), 0, false), fallen(whole(kind, 4, 4), math.MinInt, false))
	}
	return all
}

func TestP70EventsThatChangeNothing(t *testing.T) {
	for _, s := range append(fewStores(), playedStores()...) {
		for _, e := range idle() {
			if to := impl.PlayDo(s, e); !sameStore(to, s) {
				t.Fatalf("PlayDo(%v, %+v) is %v", s, e, to)
			}
		}
	}
}

func TestP70OfNoSteps(t *testing.T) {
	counts := map[int]int{}
	for _, s := range append(stepStores(), playedStores()...) {
		dirty := wantDirty(s)
		for addr := 1; addr <= 6; addr++ {
			var e impl.Event
			if _, ok := wantLast(s.Flash, addr); ok {
				e = whole(3, addr, 4)
			} else if !slices.Contains(dirty, addr) {
				e = whole(2, addr, 4)
			}
			counts[e.Kind]++
			for cut := 0; cut <= 2; cut++ {
				for _, torn := range []bool{false, true} {
					if to := impl.PlayDo(s, fallen(e, cut, torn)); !sameStore(to, s) {
						t.Fatalf("PlayDo(%v, %+v) is %v", s, fallen(e, cut, torn), to)
					}
				}
			}
		}
	}
	if counts[2] < 500 || counts[3] < 500 {
		t.Errorf("of the kinds so many have no steps: %v", counts)
	}
}

func TestP70IdleEventsAmongOthers(t *testing.T) {
	all := idle()
	for i, events := range playsOf(allSorts()) {
		var with []impl.Event
		for n, e := range events[:len(events)/2] {
			with = append(with, e, all[(n*7+i)%len(all)])
		}
		if a, b := mustRun(t, with), mustRun(t, events[:len(events)/2]); !sameStore(a, b) {
			t.Fatalf("PlayRun(%+v)\nis   %v,\nnot  %v", with, a, b)
		}
	}
}

// just is those of the events of which that is told.
func just(events []impl.Event, tells func(e impl.Event) bool) []impl.Event {
	var some []impl.Event
	for _, e := range events {
		if tells(e) {
			some = append(some, e)
		}
	}
	return some
}

func TestP71EventsOfOneAddressAlone(t *testing.T) {
	for _, events := range playsOf(uncutSorts()) {
		all := impl.StoreAll(mustRun(t, events))
		for addr := 1; addr <= 6; addr++ {
			alone := mustRun(t, just(events, func(e impl.Event) bool { return e.A == addr && e.Kind != 4 }))
			told := mustRun(t, just(events, func(e impl.Event) bool { return e.A == addr || e.Kind == 4 }))
			if a, b := impl.StoreRead(alone, addr), impl.StoreRead(told, addr); a != all[addr-1] || b != all[addr-1] {
				t.Fatalf("%+v: %d has %d, alone %d, and with EvAll %d", events, addr, all[addr-1], a, b)
			}
		}
	}
}

func TestP72WithoutThoseThatFlushFillOrTell(t *testing.T) {
	left := 0
	for _, events := range playsOf(uncutSorts()) {
		puts := just(events, func(e impl.Event) bool { return e.Kind == 1 })
		left += len(events) - len(puts)
		mustHave(t, "puts alone", mustRun(t, puts), impl.StoreAll(mustRun(t, events)))
		for kind := 2; kind <= 4; kind++ {
			without := just(events, func(e impl.Event) bool { return e.Kind != kind })
			mustHave(t, fmt.Sprint("without kind ", kind), mustRun(t, without), impl.StoreAll(mustRun(t, events)))
		}
	}
	if left < 300 {
		t.Errorf("just %d were left out", left)
	}
}

func TestP73PutsThatAreTornAtOnceLeftOut(t *testing.T) {
	// All others are done, or begun with no step. How many steps one has hangs on how many pages are clean, so that one
	// that is cut between two steps may be done whole behind others, and not so without them.
	left := 0
	for _, sort := range []playSort{
		{"torn or done or not begun", []int{1, 1, 1, 1, 2, 3, 4}, 6, []int{0, 7, 7}, 2},
		{"torn at once or done", []int{1}, 6, []int{0, 7}, 1},
		{"torn at once, two addresses", []int{1, 1, 2}, 2, []int{0, 0, 7}, 1},
	} {
		for _, events := range sort.plays(25) {
			without := just(events, func(e impl.Event) bool { return e.Kind != 1 || e.C != 0 || !e.Torn })
			left += len(events) - len(without)
			mustHave(t, fmt.Sprintf("left out of %+v", events), mustRun(t, without), impl.StoreAll(mustRun(t, events)))
		}
	}
	if left < 500 {
		t.Errorf("just %d were left out", left)
	}
}

func TestP74WhatWasNotPutIsNone(t *testing.T) {
	counts := map[bool]int{}
	for _, events := range playsOf(allSorts()) {
		var was [6]bool
		for i, p := range playOf(events) {
			if p.e.Kind == 1 && p.e.A >= 1 && p.e.A <= 6 {
				was[p.e.A-1] = true
			}
			for n, put := range was {
				counts[put]++
				if !put && (impl.StoreRead(p.is, n+1) != 0 || p.is.Disk[n] != 0) {
					t.Fatalf("behind %+v %d was not put: %v", events[:i+1], n+1, p.is)
				}
			}
		}
	}
	if counts[true] < 1000 || counts[false] < 1000 {
		t.Errorf("%d were put, %d were not: too few of one sort", counts[true], counts[false])
	}
}

func TestP75TheSlowDiskHasWhatWasPut(t *testing.T) {
	told := 0
	for _, events := range playsOf(allSorts()) {
		var put [6][]int
		for i, p := range playOf(events) {
			// What was not put whole has no record, so that the slow disk is never told it.
			if p.e.Kind == 1 && p.isDone {
				put[p.e.A-1] = append(put[p.e.A-1], p.e.B)
			}
			for n, val := range p.is.Disk {
				if val != 0 && !slices.Contains(put[n], val) {
					t.Fatalf("behind %+v the slow disk has %d of %d: %v", events[:i+1], val, n+1, p.is)
				}
				told += min(val, 1)
			}
		}
	}
	if told < 1000 {
		t.Errorf("just %d values on slow disks", told)
	}
}

func TestP76HowManyEventsThereMayBe(t *testing.T) {
	for _, e := range []impl.Event{{}, putAt(1, 1), fallen(putAt(2, 3), 0, true), whole(2, 1, 0), whole(3, 1, 0), tellAll()} {
		for size := 0; size <= 130; size++ {
			s, ok := impl.PlayRun(slices.Repeat([]impl.Event{e}, size))
			if ok != (size <= 60) {
				t.Fatalf("PlayRun of %d events is %v", size, ok)
			}
			if !ok && (len(s.Flash) != 0 || len(s.Disk) != 0) {
				t.Fatalf("PlayRun of %d events is %v", size, s)
			}
			if ok && !impl.StoreOk(s) {
				t.Fatalf("PlayRun of %d times %+v is not ok: %v", size, e, s)
			}
		}
	}
}

func TestP76OfNoneItIsStoreNew(t *testing.T) {
	for _, none := range [][]impl.Event{nil, {}, make([]impl.Event, 0, 70), slices.Repeat([]impl.Event{putAt(1, 1)}, 61)[:0]} {
		if s := mustRun(t, none); !sameStore(s, impl.StoreNew()) {
			t.Errorf("PlayRun of none is %v", s)
		}
	}
}

func TestP76TheLastEventCounts(t *testing.T) {
	events := append(slices.Repeat([]impl.Event{putAt(1, 1)}, 59), putAt(2, 9))
	mustHave(t, "sixty", mustRun(t, events), []int{1, 9, 0, 0, 0, 0})
	// What stands in the spare room is no event.
	more := append(events, putAt(2, 8))
	mustHave(t, "sixty of more", mustRun(t, more[:60]), []int{1, 9, 0, 0, 0, 0})
	if s, ok := impl.PlayRun(more); ok || len(s.Flash) != 0 || len(s.Disk) != 0 {
		t.Error(s, ok)
	}
}

func TestP77BehindEvAllEachFlushChangesNothing(t *testing.T) {
	counts := map[bool]int{}
	for _, s := range slices.Concat(stepStores(), playedStores(), []impl.Store{eldestAllDirty(), allDirty()}) {
		vals := wantValues(s)
		to := mustPlay(t, s, tellAll())
		mustHave(t, "EvAll", to, vals)
		if mustStay(t, to, tellAll()); len(wantDirty(to)) != 0 {
			// No record can be written any more.
			mustSteps(t, "StepsPut", to, impl.StepsPut(to, 1, 1), nil)
			counts[false]++
			continue
		}
		counts[true]++
		if dirty := impl.StoreDirty(to); len(dirty) != 0 || !slices.Equal(to.Disk, vals) {
			t.Fatalf("EvAll of %v leaves %v dirty: %v", s, dirty, to)
		}
		for addr := 1; addr <= 6; addr++ {
			mustStay(t, to, fallen(whole(2, addr, 0), addr%3, true))
			mustStay(t, to, whole(2, addr, 0))
		}
	}
	if counts[true] < 1000 || counts[false] < 20 {
		t.Errorf("%d could be flushed, %d could not: too few of one sort", counts[true], counts[false])
	}
}

// mustStay says that an event changes nothing.
func mustStay(t *testing.T, s impl.Store, e impl.Event) {
	t.Helper()
	if to := impl.PlayDo(s, e); !sameStore(to, s) {
		t.Fatalf("PlayDo(%v, %+v) is %v", s, e, to)
	}
}

// mustPlayNothing says that of a store that is not ok there are no steps, and nothing happens.
func mustPlayNothing(t *testing.T, name string, s impl.Store) {
	t.Helper()
	for kind := 0; kind <= 5; kind++ {
		for _, cut := range []int{-1, 0, 1, 7} {
			e := impl.Event{Kind: kind, A: 1 + kind%6, B: kind, C: cut, Torn: cut%2 == 0}
			if steps := impl.PlaySteps(s, e); len(steps) != 0 {
				t.Fatalf("%s: PlaySteps(%v, %+v) is %v", name, s, e, steps)
			}
			if to := impl.PlayDo(s, e); len(to.Flash) != 0 || len(to.Disk) != 0 {
				t.Fatalf("%s: PlayDo(%v, %+v) is %v", name, s, e, to)
			}
		}
	}
}

func TestPlaysOfStoresThatAreNotOk(t *testing.T) {
	mustPlayNothing(t, "nothing", impl.Store{})
	mustPlayNothing(t, "empty lists", impl.Store{Flash: []impl.Block{}, Disk: []int{}})
	for _, s := range []impl.Store{impl.StoreNew(), allDirty(), allClean(), eldestAllDirty()} {
		for _, w := range wrongFlashes(s.Flash) {
			mustPlayNothing(t, w.name, impl.Store{Flash: w.f, Disk: s.Disk})
		}
		for addr := 1; addr <= 6; addr++ {
			for _, val := range noVals() {
				mustPlayNothing(t, fmt.Sprint("the slow disk has ", val), withDisk(s, addr, val))
			}
		}
		mustPlayNothing(t, "a number less", impl.Store{Flash: s.Flash, Disk: s.Disk[:5]})
		mustPlayNothing(t, "a number more", impl.Store{Flash: s.Flash, Disk: append(slices.Clone(s.Disk), 0)})
		mustPlayNothing(t, "no slow disk", impl.Store{Flash: s.Flash})
	}
	mustPlayNothing(t, "a clean record, and another value", withDisk(allClean(), 6, 9))
	mustPlayNothing(t, "two were begun", impl.Store{Flash: seqBlocks([]int{1, 2, 3}, []int{4}), Disk: make([]int, 6)})
}

func TestPlaysOfStoresOfAllSorts(t *testing.T) {
	oks, others := 0, 0
	for i, s := range anyStores() {
		if !wantStoreOk(s) {
			others++
			mustPlayNothing(t, "not ok", s)
			continue
		}
		oks++
		for _, e := range eventsOf(1+i%6, i%10) {
			mustPlay(t, s, fallen(e, i%9, i%2 == 0))
		}
	}
	if oks < 1000 || others < 1000 {
		t.Errorf("%d are ok, %d are not: too few of one sort", oks, others)
	}
}

// mustPlayAnew says that PlayDo answers new memory, and leaves what it was given, and its spare room, as it was.
func mustPlayAnew(t *testing.T, s impl.Store, e impl.Event) {
	t.Helper()
	given := roomyStore(s)
	was := wholeStore(given)
	steps, more := impl.PlaySteps(given, e), impl.PlaySteps(given, e)
	to, again := impl.PlayDo(given, e), impl.PlayDo(given, e)
	mustSteps(t, "PlaySteps with spare room", s, steps, wantPlaySteps(s, e))
	if want := wantPlay(s, e); !sameStore(to, want) || !sameStore(again, want) {
		t.Fatalf("spare room changes PlayDo(%v, %+v): %v, %v", s, e, to, again)
	}
	mustShareNoStep(t, "PlaySteps", steps, more)
	mustShareNothing(t, "PlayDo", given.Flash, to.Flash, again.Flash)
	mustShareNoNumber(t, "PlayDo", given.Disk, to.Disk, again.Disk)
	if now := wholeStore(given); !sameStore(now, was) {
		t.Fatalf("PlayDo(%v, %+v) changed what it was given: %v", s, e, now)
	}
}

func TestPlayDoAnswersNewMemory(t *testing.T) {
	for i, s := range append(fewStores(), eldestAllDirty(), allDirty(), impl.StoreNew()) {
		for _, e := range append(eventsOf(1+i%6, i%10), impl.Event{}, whole(1, 7, 1)) {
			for _, cut := range []int{-1, i % 3, 7} {
				mustPlayAnew(t, s, fallen(e, cut, i%2 == 0))
			}
		}
	}
}

func TestPlayDoOfPagesThatShareMemory(t *testing.T) {
	// The clean blocks of a store may be one list that is handed in four times; no answer's may.
	pages := make([]impl.Page, 4)
	s := impl.Store{Flash: []impl.Block{{Pages: pages}, {Pages: pages}, {Pages: pages}, {Pages: pages}}, Disk: make([]int, 6)}
	for _, e := range append(eventsOf(1, 5), impl.Event{}, fallen(putAt(1, 1), -1, true)) {
		to := mustPlay(t, s, e)
		mustShareNothing(t, "PlayDo", to.Flash, []impl.Block{{Pages: pages}})
		if pages[0].State != 0 {
			t.Errorf("%+v wrote into the store that it was given", e)
		}
	}
}

func TestPlayRunLeavesItsEvents(t *testing.T) {
	junk := impl.Event{Kind: 77, A: 77, B: 77, C: 77, Torn: true}
	for _, events := range playsOf(allSorts()) {
		given := append(make([]impl.Event, 0, len(events)+3), events...)
		given = append(given, junk, junk, junk)
		was := slices.Clone(given)
		a, b := mustRun(t, given[:len(events)]), mustRun(t, given[:len(events)])
		if !slices.Equal(given, was) {
			t.Fatalf("%+v became %+v", was, given)
		}
		if !sameStore(a, b) || !sameStore(a, mustRun(t, events)) {
			t.Fatalf("PlayRun(%+v) is %v, then %v", events, a, b)
		}
		mustShareNothing(t, "PlayRun", a.Flash, b.Flash)
		mustShareNoNumber(t, "PlayRun", a.Disk, b.Disk)
	}
	many := slices.Repeat([]impl.Event{junk}, 64)
	if _, ok := impl.PlayRun(many[:61]); ok || !slices.Equal(many, slices.Repeat([]impl.Event{junk}, 64)) {
		t.Error("events that are too many were changed, or taken")
	}
}

func TestNoPlayHangsOnAnotherOne(t *testing.T) {
	events := tornSorts()[1].plays(1)[0]
	want := mustRun(t, events)
	for _, others := range playsOf(tornSorts()) {
		mustRun(t, others)
		if s := mustRun(t, events); !sameStore(s, want) {
			t.Fatalf("behind another play %v, not %v", s, want)
		}
	}
	a := mustRun(t, nil)
	a.Disk[0], a.Flash[0].Worn, a.Flash[1].Pages[0] = 9, 9, tornPage()
	if s := mustRun(t, nil); !sameStore(s, impl.StoreNew()) {
		t.Errorf("a new play begins with %v", s)
	}
}
