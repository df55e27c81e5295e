package tests

import (
	"fmt"
	"math"
	"runtime"
	"slices"
	"sync"
	"testing"

	"loop.example/buttery/impl"
)

// wearOf is what the document asks of ok blocks, number by number.
type wearOf struct {
	spread, all, lost int
}

// notOk is what the document asks of blocks that are not ok.
func notOk() wearOf {
	return wearOf{-1, -1, -1}
}

// lostOf counts the torn pages of a block.
func lostOf(b impl.Block) int {
	lost := 0
	for _, p := range b.Pages {
		if p.State == 2 {
			lost++
		}
	}
	return lost
}

// wornOf is how often each block was wiped, ascending.
func wornOf(f []impl.Block) []int {
	var worn []int
	for _, b := range f {
		worn = append(worn, b.Worn)
	}
	slices.Sort(worn)
	return worn
}

// wantWear is what the document asks of ok blocks.
func wantWear(f []impl.Block) wearOf {
	worn := wornOf(f)
	want := wearOf{spread: worn[len(worn)-1] - worn[0]}
	for i, b := range f {
		want.all += worn[i]
		want.lost += lostOf(b)
	}
	return want
}

// gotWear is what the program answers.
func gotWear(f []impl.Block) wearOf {
	return wearOf{impl.WearSpread(f), impl.WearAll(f), impl.WearLost(f)}
}

// mustWear holds what the program answers against what is wanted.
func mustWear(t *testing.T, what string, f []impl.Block, want wearOf) {
	t.Helper()
	if got := gotWear(f); got != want {
		t.Fatalf("%s: WearSpread, WearAll and WearLost of %v are %v, not %v", what, f, got, want)
	}
}

// shapedAlike is blocks all of whose rows of pages are such states.
func shapedAlike(states []int, worn ...int) []impl.Block {
	return flashOfShapes([][]int{states, states, states, states}, worn, 100)
}

func TestWearIsAsTheDocumentSays(t *testing.T) {
	for i, f := range allFlashes() {
		mustWear(t, fmt.Sprint("blocks ", i), f, wantWear(f))
	}
}

func TestWearOfBlocksThatAreTold(t *testing.T) {
	clean, torn, full := []int{0, 0, 0, 0}, []int{2, 2, 2, 2}, []int{1, 1, 1, 1}
	some := flashOfShapes([][]int{{2, 0, 0, 0}, {1, 2, 2, 0}, full, {2, 1, 2, 1}}, []int{7, 3, 12, 5}, 30)
	for _, c := range []struct {
		name string
		f    []impl.Block
		want wearOf
	}{
		{"new", impl.FlashNew(), wearOf{0, 0, 0}},
		{"all torn, never wiped", shapedAlike(torn, 0, 0, 0, 0), wearOf{0, 0, 16}},
		{"all full, worn alike", shapedAlike(full, 9, 9, 9, 9), wearOf{0, 36, 0}},
		{"each WornMax times", shapedAlike(clean, 200, 200, 200, 200), wearOf{0, 800, 0}},
		{"each WornMax times, all torn", shapedAlike(torn, 200, 200, 200, 200), wearOf{0, 800, 16}},
		{"one WornMax times", shapedAlike(clean, 0, 0, 200, 0), wearOf{200, 200, 0}},
		{"one never, all others WornMax times", shapedAlike(full, 200, 0, 200, 200), wearOf{200, 600, 0}},
		{"all else", some, wearOf{9, 27, 5}},
	} {
		mustWear(t, c.name, c.f, c.want)
	}
}

// wears is rows of how often each block may have been wiped: the limits, and what is near them, in all places.
func wears() [][]int {
	var all [][]int
	few := []int{0, 1, 2, 100, 199, 200}
	for _, a := range few {
		for _, b := range few {
			for _, c := range few {
				for _, d := range few {
					all = append(all, []int{a, b, c, d})
				}
			}
		}
	}
	return all
}

func TestWearOfBlocksWornInAllWays(t *testing.T) {
	shapes := blockShapes()
	for i, worn := range wears() {
		f := shapedAlike(shapes[i%len(shapes)], worn...)
		mustWear(t, fmt.Sprint("worn ", worn), f, wantWear(f))
	}
}

func TestP50TheMostAndTheLeastWornInEachPlace(t *testing.T) {
	for most := 0; most < 4; most++ {
		for least := 0; least < 4; least++ {
			if most == least {
				continue
			}
			for between := 3; between <= 11; between++ {
				f := wornBlocks(impl.FlashNew(), between, between, between, between)
				f[most].Worn, f[least].Worn = 11, 3
				mustWear(t, fmt.Sprint("most at ", most, ", least at ", least), f, wearOf{8, 14 + 2*between, 0})
			}
		}
	}
}

func TestP50EachNumberInEachPlace(t *testing.T) {
	mustWear(t, "new", impl.FlashNew(), wearOf{0, 0, 0})
	for worn := 0; worn <= 200; worn++ {
		alike := wornBlocks(impl.FlashNew(), worn, worn, worn, worn)
		mustWear(t, "worn alike", alike, wearOf{0, 4 * worn, 0})
		for b := range alike {
			one := impl.FlashNew()
			one[b].Worn = worn
			mustWear(t, fmt.Sprint("block ", b, " worn ", worn), one, wearOf{worn, worn, 0})
			others := wornBlocks(impl.FlashNew(), 200, 200, 200, 200)
			others[b].Worn = worn
			mustWear(t, fmt.Sprint("all but block ", b, " worn out"), others, wearOf{200 - worn, 600 + worn, 0})
		}
	}
}

func TestP51WhatWearsAndWhatDoesNot(t *testing.T) {
	wiped, kept, written := 0, 0, 0
	for _, f := range okFlashes() {
		was := impl.WearAll(f)
		if lost := impl.WearLost(f); lost < 0 || lost > 16 {
			t.Fatalf("WearLost(%v) is %d", f, lost)
		}
		for b := range f {
			for _, torn := range []bool{false, true} {
				got, ok := impl.FlashWipe(f, b, torn)
				want := was
				if ok {
					want++
					wiped++
				} else {
					kept++
				}
				if all := impl.WearAll(got); all != want {
					t.Fatalf("FlashWipe(%v, %d, %v): WearAll is %d, not %d", f, b, torn, all, want)
				}
				r := impl.Rec{Kind: 1, Seq: freeNumber(f, 77), Addr: 2, Val: 3}
				got, ok = impl.FlashWrite(f, b, r, torn)
				if ok {
					written++
				}
				if all := impl.WearAll(got); all != was {
					t.Fatalf("FlashWrite(%v, %d, %v, %v): WearAll is %d, not %d", f, b, r, torn, all, was)
				}
			}
		}
	}
	if wiped < 1000 || kept < 100 || written < 1000 {
		t.Errorf("%d wiped, %d not, %d written: too few of one sort", wiped, kept, written)
	}
}

func TestP52WearLostCountsTornPages(t *testing.T) {
	full := []int{1, 1, 1, 1}
	for b := 0; b < 4; b++ {
		for _, shape := range blockShapes() {
			rows := [][]int{full, full, full, full}
			rows[b] = shape
			f := flashOfShapes(rows, []int{1, 2, 3, 4}, 50)
			lost := 0
			for _, state := range shape {
				lost += state / 2
			}
			mustWear(t, fmt.Sprint("block ", b, " of ", shape), f, wearOf{3, 10, lost})
		}
	}
}

func TestP52OneMoreBehindAWriteThatFell(t *testing.T) {
	fell, stood := 0, 0
	for _, f := range okFlashes() {
		was := impl.WearLost(f)
		for b := range f {
			r := impl.Rec{Kind: 2, Seq: freeNumber(f, 500), Addr: 6, Val: 0}
			for _, torn := range []bool{false, true} {
				got, ok := impl.FlashWrite(f, b, r, torn)
				want := was
				if ok && torn {
					want++
					fell++
				} else {
					stood++
				}
				if lost := impl.WearLost(got); lost != want {
					t.Fatalf("FlashWrite(%v, %d, %v, %v): WearLost is %d, not %d", f, b, r, torn, lost, want)
				}
			}
		}
	}
	if fell < 1000 || stood < 1000 {
		t.Errorf("%d fell, %d did not: too few of one sort", fell, stood)
	}
}

func TestP52PageByPageUntilAllAreTorn(t *testing.T) {
	f := impl.FlashNew()
	for n := 1; n <= 16; n++ {
		var ok bool
		f, ok = impl.FlashWrite(f, n*7%4, impl.Rec{Kind: 1, Seq: n, Addr: 1, Val: 1}, true)
		if !ok {
			t.Fatal(n, f)
		}
		mustWear(t, fmt.Sprint(n, " writes that fell"), f, wearOf{0, 0, n})
	}
}

func TestP52NoneBehindAWipeOfAllBlocks(t *testing.T) {
	tried := 0
	for _, f := range okFlashes() {
		if slices.Contains(wornOf(f), 200) {
			continue
		}
		tried++
		for _, order := range [][]int{{0, 1, 2, 3}, {3, 1, 0, 2}} {
			got := f
			for _, b := range order {
				got, _ = impl.FlashWipe(got, b, false)
			}
			want := wantWear(f)
			mustWear(t, fmt.Sprint("all wiped of ", f), got, wearOf{want.spread, want.all + 4, 0})
		}
	}
	if tried < 100 {
		t.Errorf("just %d were wiped", tried)
	}
}

// flushAll is the store behind StepsFlush of the first that is dirty, again and again; false, if one could not be flushed.
func flushAll(t *testing.T, s impl.Store) (impl.Store, int, bool) {
	t.Helper()
	times := 0
	for ; times <= 6; times++ {
		dirty := impl.StoreDirty(s)
		if len(dirty) == 0 {
			return s, times, true
		}
		steps := impl.StepsFlush(s, dirty[0])
		if len(steps) == 0 {
			return s, times, false
		}
		s = mustTo(t, s, steps, len(steps), false)
	}
	t.Fatalf("%v is dirty behind as many flushes as there are addresses", s)
	return s, times, false
}

func TestP53BehindFlushesNothingIsDirty(t *testing.T) {
	counts, stuck := map[int]int{}, 0
	for _, s := range append(stepStores(), eldestAllDirty(), allDirty()) {
		vals := wantValues(s)
		to, times, ok := flushAll(t, s)
		mustHave(t, fmt.Sprint("flushed of ", s), to, vals)
		if !ok {
			stuck++
			addr := wantDirty(to)[0]
			mustSteps(t, "StepsFlush of what cannot be flushed", to, impl.StepsFlush(to, addr), wantFlush(to, addr))
			continue
		}
		counts[times]++
		if dirty := wantDirty(to); len(dirty) != 0 || !slices.Equal(to.Disk, vals) {
			t.Fatalf("%v flushed %d times is %v: dirty %v, not %v on the slow disk", s, times, to, dirty, vals)
		}
	}
	for times := 0; times <= 6; times++ {
		if counts[times] == 0 {
			t.Errorf("no store was flushed %d times", times)
		}
	}
	if stuck < 20 {
		t.Errorf("just %d could not be flushed", stuck)
	}
}

func TestP53EachSetOfDirtyAddresses(t *testing.T) {
	for set := 0; set < 64; set++ {
		s, vals := impl.StoreNew(), make([]int, 6)
		for n := 0; n < 23; n++ {
			addr, val := 1+n*5%6, n%10
			if set>>(addr-1)&1 == 0 {
				continue
			}
			s = mustPut(t, s, addr, val)
			vals[addr-1] = val
		}
		to, _, ok := flushAll(t, s)
		if !ok || len(impl.StoreDirty(to)) != 0 || !slices.Equal(to.Disk, vals) {
			t.Fatalf("%v flushed is %v", s, to)
		}
		mustHave(t, fmt.Sprint("flushed of ", s), to, vals)
	}
}

// mustPut is the store behind all of StepsPut, of which there must be some.
func mustPut(t *testing.T, s impl.Store, addr int, val int) impl.Store {
	t.Helper()
	steps := impl.StepsPut(s, addr, val)
	if len(steps) == 0 {
		t.Fatalf("StepsPut(%v, %d, %d) is none", s, addr, val)
	}
	return mustTo(t, s, steps, len(steps), false)
}

// canPutTwo says whether two puts, one behind the other, have steps, as the document says.
func canPutTwo(s impl.Store, one int, two int) bool {
	first := wantToWrite(s, 1, one, 0)
	return len(first) > 0 && len(wantToWrite(wantTo(s, first, len(first), false), 1, two, 0)) > 0
}

func TestP54OfTwoAtOneAddressTheLastIsRead(t *testing.T) {
	tried := 0
	for i, s := range stepStores() {
		addr := 1 + i%6
		if !canPutTwo(s, addr, addr) {
			continue
		}
		tried++
		for _, vals := range [][]int{{i % 10, i * 3 % 10}, {0, 9}, {9, 0}, {4, 4}} {
			to := mustPut(t, mustPut(t, s, addr, vals[0]), addr, vals[1])
			want := wantValues(s)
			want[addr-1] = vals[1]
			mustHave(t, fmt.Sprint("put at ", addr, ": ", vals, " of ", s), to, want)
		}
	}
	if tried < 500 {
		t.Errorf("just %d were put", tried)
	}
}

func TestP54OfTwoAtTwoAddressesBothAreRead(t *testing.T) {
	tried := 0
	for i, s := range stepStores() {
		one, two := 1+i%6, 1+(i+1+i/6%5)%6
		if one == two || !canPutTwo(s, one, two) || !canPutTwo(s, two, one) {
			continue
		}
		tried++
		want := wantValues(s)
		want[one-1], want[two-1] = i%10, i*7%10
		first := mustPut(t, mustPut(t, s, one, i%10), two, i*7%10)
		mustHave(t, fmt.Sprint(one, " and then ", two, " of ", s), first, want)
		other := mustPut(t, mustPut(t, s, two, i*7%10), one, i%10)
		mustHave(t, fmt.Sprint(two, " and then ", one, " of ", s), other, want)
	}
	if tried < 500 {
		t.Errorf("just %d were put", tried)
	}
}

// putAgain puts all of what fell, and holds the values against those that are wanted; false, if it cannot be put any more.
func putAgain(t *testing.T, fell impl.Store, addr int, val int, was []int) bool {
	t.Helper()
	steps := impl.StepsPut(fell, addr, val)
	mustSteps(t, fmt.Sprint("StepsPut ", addr, " ", val, " again"), fell, steps, wantToWrite(fell, 1, addr, val))
	vals := slices.Clone(was)
	if len(steps) > 0 {
		vals[addr-1] = val
	}
	mustHave(t, fmt.Sprint(addr, " ", val, " put again of ", fell), mustTo(t, fell, steps, len(steps), false), vals)
	return len(steps) > 0
}

func TestP55WhatFellIsPutAgain(t *testing.T) {
	counts := map[bool]int{}
	for i, s := range append(stepStores(), eldestAllDirty()) {
		addr, val := 1+i%6, i*3%10
		steps := impl.StepsPut(s, addr, val)
		for cut := range steps {
			for _, torn := range []bool{false, true} {
				fell := mustTo(t, s, steps, cut, torn)
				mustHave(t, "fell", fell, wantValues(s))
				counts[putAgain(t, fell, addr, val, wantValues(s))]++
			}
		}
	}
	if counts[true] < 1000 || counts[false] < 10 {
		t.Errorf("%d were put again, %d could not be: too few of one sort", counts[true], counts[false])
	}
}

func TestP55WhatFellTwiceIsPutAgain(t *testing.T) {
	for i, s := range append(fewStores(), eldestAllDirty()) {
		addr, val := 1+i%6, i*3%10
		steps := impl.StepsPut(s, addr, val)
		for cut := range steps {
			fell := mustTo(t, s, steps, cut, true)
			more := impl.StepsPut(fell, addr, val)
			for again := range more {
				putAgain(t, mustTo(t, fell, more, again, true), addr, val, wantValues(s))
			}
		}
	}
}

func TestP55TheBlockWornOutByAWipeThatFell(t *testing.T) {
	s := eldestAllDirty()
	old := wantOld(s.Flash)
	vals := wantValues(s)
	for worn, can := range map[int]bool{197: true, 198: true, 199: false} {
		s.Flash[old].Worn = worn
		steps := impl.StepsPut(s, 3, 7)
		for cut := range steps {
			fell := mustTo(t, s, steps, cut, true)
			// A wipe that falls wears its block as well, so that one worn out by it stays torn.
			if got := putAgain(t, fell, 3, 7, vals); got != (can || cut != len(steps)-2) {
				t.Errorf("worn %d, fell at %d of %v: put again %v", worn, cut, steps, got)
			}
		}
	}
}

// untilWiped puts other addresses until each block was wiped, and says that the slow disk is told nothing of that one; each
// one may fall as told. It is false, if no more can be put.
func untilWiped(t *testing.T, s impl.Store, addr int, next func(int) int, falling bool) bool {
	t.Helper()
	val, wiped := s.Disk[addr-1], map[int]bool{}
	for n := 0; n < 200 && len(wiped) < 4; n++ {
		steps := impl.StepsPut(s, 1+(addr+next(5))%6, next(10))
		if len(steps) == 0 {
			return false
		}
		cut, torn := len(steps), false
		if falling && next(3) == 0 {
			cut, torn = next(len(steps)), true
		}
		for i, step := range steps {
			if step.Kind == impl.StepDisk && step.Addr == addr {
				t.Fatalf("%d was flushed, but is told again by %v of %v", addr, steps, s)
			}
			if step.Kind == impl.StepWipe && i < cut {
				wiped[step.Block] = true
			}
		}
		s = mustTo(t, s, steps, cut, torn)
		if impl.StoreRead(s, addr) != val || s.Disk[addr-1] != val {
			t.Fatalf("%d was flushed with %d, but behind %v the store is %v", addr, val, steps, s)
		}
	}
	if len(wiped) < 4 {
		t.Fatalf("of %v just blocks %v were wiped", s, wiped)
	}
	if _, ok := impl.FindLast(s.Flash, addr); ok {
		t.Fatalf("each block was wiped, but %d has a record: %v", addr, s)
	}
	return true
}

func TestP56WhatWasFlushedIsNotToldAgain(t *testing.T) {
	next := steadyNumbers(41)
	tried := map[bool]int{}
	for _, s := range append(stepStores(), eldestAllDirty(), allDirty()) {
		for _, addr := range wantDirty(s) {
			steps := impl.StepsFlush(s, addr)
			if len(steps) == 0 {
				continue
			}
			flushed := mustTo(t, s, steps, len(steps), false)
			for _, falling := range []bool{false, true} {
				if untilWiped(t, flushed, addr, next, falling) {
					tried[falling]++
				}
			}
		}
	}
	if tried[false] < 200 || tried[true] < 200 {
		t.Errorf("just %v were wiped", tried)
	}
}

func TestP57OfBlocksThatAreNotOkAllAreLessThanNone(t *testing.T) {
	torn, full := []int{2, 2, 2, 2}, []int{1, 1, 1, 1}
	tried := append(someFlashes(), shapedAlike(torn, 5, 5, 5, 5), shapedAlike(full, 1, 2, 3, 4), shapedAlike(full, 200, 200, 200, 200))
	for _, f := range tried {
		for _, w := range wrongFlashes(f) {
			mustWear(t, w.name, w.f, notOk())
		}
	}
}

func TestP57EachThingThatIsNotOk(t *testing.T) {
	f := flashOfShapes([][]int{{1, 2, 1, 0}, {2, 1, 2, 2}, {0, 0, 0, 0}, {1, 1, 0, 0}}, []int{4, 5, 6, 7}, 60)
	mustWear(t, "ok", f, wearOf{3, 22, 4})
	change := func(name string, with func(w []impl.Block) []impl.Block) {
		t.Helper()
		mustWear(t, name, with(copyFlash(f)), notOk())
	}
	change("no blocks", func(w []impl.Block) []impl.Block { return nil })
	change("none of some", func(w []impl.Block) []impl.Block { return w[:0] })
	change("one too few", func(w []impl.Block) []impl.Block { return w[:3] })
	change("one too many", func(w []impl.Block) []impl.Block { return append(w, impl.Block{Pages: make([]impl.Page, 4)}) })
	for b := range f {
		change("a page too few", func(w []impl.Block) []impl.Block { w[b].Pages = w[b].Pages[:3]; return w })
		change("a page too many", func(w []impl.Block) []impl.Block { w[b].Pages = append(w[b].Pages, impl.Page{}); return w })
		for _, worn := range []int{-1, 201, math.MinInt, math.MaxInt} {
			change("worn", func(w []impl.Block) []impl.Block { w[b].Worn = worn; return w })
		}
		change("a state that is none", func(w []impl.Block) []impl.Block { w[b].Pages[3].State = 3; return w })
	}
	change("clean ahead of one written", func(w []impl.Block) []impl.Block { w[0].Pages[1] = impl.Page{}; return w })
	change("clean ahead of one torn", func(w []impl.Block) []impl.Block { w[1].Pages[2] = impl.Page{}; return w })
	change("no ok record", func(w []impl.Block) []impl.Block { w[3].Pages[0].Rec.Addr = 7; return w })
	change("a number twice", func(w []impl.Block) []impl.Block { w[3].Pages[0].Rec.Seq = w[0].Pages[2].Rec.Seq; return w })
	change("something on a clean page", func(w []impl.Block) []impl.Block { w[2].Pages[3].Rec.Val = 1; return w })
	change("something on a torn page", func(w []impl.Block) []impl.Block { w[1].Pages[0].Rec.Kind = 1; return w })
}

func TestP57WearAllIsAtLeastWearSpread(t *testing.T) {
	for _, worn := range wears() {
		f := wornBlocks(impl.FlashNew(), worn...)
		if spread, all := impl.WearSpread(f), impl.WearAll(f); all < spread || spread < 0 {
			t.Fatalf("worn %v: WearAll %d, WearSpread %d", worn, all, spread)
		}
	}
	for _, f := range okFlashes() {
		if spread, all := impl.WearSpread(f), impl.WearAll(f); all < spread || spread < 0 {
			t.Fatalf("%v: WearAll %d, WearSpread %d", f, all, spread)
		}
	}
}

func TestP58WipingTheLeastAndTheMostWorn(t *testing.T) {
	shapes := blockShapes()
	for i, worn := range wears() {
		f := shapedAlike(shapes[i%len(shapes)], worn...)
		was := impl.WearSpread(f)
		for b := range f {
			for _, torn := range []bool{false, true} {
				to, ok := impl.FlashWipe(f, b, torn)
				spread := impl.WearSpread(to)
				if !ok && spread != was {
					t.Fatalf("worn %v: %d cannot be wiped, but WearSpread is %d", worn, b, spread)
				}
				if ok && worn[b] == slices.Min(worn) && spread > max(was, 1) {
					t.Fatalf("worn %v: %d is least, but behind its wipe WearSpread is %d", worn, b, spread)
				}
				if ok && worn[b] == slices.Max(worn) && spread != was+1 {
					t.Fatalf("worn %v: %d is most, but behind its wipe WearSpread is %d", worn, b, spread)
				}
			}
		}
	}
}

func TestP58WipingTheLeastWornAgainAndAgain(t *testing.T) {
	f := wornBlocks(impl.FlashNew(), 9, 0, 4, 9)
	was := impl.WearSpread(f)
	for n := 0; n < 40; n++ {
		least := 0
		for b := range f {
			if f[b].Worn < f[least].Worn {
				least = b
			}
		}
		f, _ = impl.FlashWipe(f, least, n%3 == 0)
		spread := impl.WearSpread(f)
		if spread > max(was, 1) || impl.WearAll(f) != 23+n {
			t.Fatalf("%d wipes: %v: WearSpread was %d, is %d, WearAll %d", n+1, f, was, spread, impl.WearAll(f))
		}
		was = spread
	}
	if was > 1 {
		t.Errorf("%v is not worn alike: %d", f, was)
	}
}

func TestP59WhatAWipeGivesBackAndTakes(t *testing.T) {
	wiped := 0
	for _, f := range okFlashes() {
		was := impl.WearLost(f)
		for b := range f {
			for _, torn := range []bool{false, true} {
				to, ok := impl.FlashWipe(f, b, torn)
				want := was
				if ok {
					wiped++
					want -= lostOf(f[b])
				}
				if ok && torn {
					want += 4
				}
				if lost := impl.WearLost(to); lost != want {
					t.Fatalf("FlashWipe(%v, %d, %v): WearLost was %d, is %d, not %d", f, b, torn, was, lost, want)
				}
			}
		}
	}
	if wiped < 1000 {
		t.Errorf("just %d were wiped", wiped)
	}
}

func TestWearOfLongRuns(t *testing.T) {
	for seed := uint32(51); seed <= 54; seed++ {
		next := steadyNumbers(seed)
		f, all, lost := impl.FlashNew(), 0, make([]int, 4)
		for i := 0; i < 1500; i++ {
			var ok bool
			b, torn := next(4), next(3) == 0
			if next(5) == 0 {
				if f, ok = impl.FlashWipe(f, b, torn); ok {
					all++
					lost[b] = map[bool]int{false: 0, true: 4}[torn]
				}
			} else {
				r := impl.Rec{Kind: 1 + next(2), Seq: freeNumber(f, 1+next(600)), Addr: 1 + next(6), Val: next(10)}
				if f, ok = impl.FlashWrite(f, b, r, torn); ok && torn {
					lost[b]++
				}
			}
			want := wearOf{wantWear(f).spread, all, lost[0] + lost[1] + lost[2] + lost[3]}
			mustWear(t, fmt.Sprint("seed ", seed, ", step ", i), f, want)
		}
	}
}

func TestWearLeavesItsArguments(t *testing.T) {
	for _, f := range someFlashes() {
		given := roomy(f)
		was := wholeOf(given)
		mustWear(t, "with spare room", given, wantWear(f))
		if now := wholeOf(given); !sameFlash(now, was) {
			t.Fatalf("%v became %v", was, now)
		}
	}
	for _, w := range wrongFlashes(someFlashes()[40]) {
		given := roomy(w.f)
		was := wholeOf(given)
		mustWear(t, w.name+", with spare room", given, notOk())
		if now := wholeOf(given); !sameFlash(now, was) {
			t.Fatalf("%s: %v became %v", w.name, was, now)
		}
	}
}

func TestWearOfPagesThatShareMemory(t *testing.T) {
	for _, state := range []int{0, 2} {
		pages := slices.Repeat([]impl.Page{{State: state}}, 4)
		f := []impl.Block{{Pages: pages, Worn: 2}, {Pages: pages, Worn: 5}, {Pages: pages}, {Pages: pages, Worn: 1}}
		mustWear(t, fmt.Sprint("one list of pages of state ", state), f, wearOf{5, 8, 8 * state})
	}
}

func TestABlockInTheSpareRoomIsNotWorn(t *testing.T) {
	f := wornBlocks(impl.FlashNew(), 1, 2, 3, 200)
	mustWear(t, "the last block in the spare room", f[:3], notOk())
	f[1].Pages = f[1].Pages[:3]
	mustWear(t, "the last page in the spare room", f, notOk())
}

func TestWearIsTheSameHoweverItRuns(t *testing.T) {
	flashes := someFlashes()
	wrong := wrongFlashes(flashes[30])
	var all sync.WaitGroup
	for worker := 0; worker < 8; worker++ {
		all.Add(1)
		go func() {
			defer all.Done()
			for n := range 1200 {
				f := flashes[(n*7+worker)%len(flashes)]
				if got, want := gotWear(f), wantWear(f); got != want {
					t.Errorf("of %v at once: %v, not %v", f, got, want)
					return
				}
				if w := wrong[(n*5+worker)%len(wrong)]; gotWear(w.f) != notOk() {
					t.Errorf("%s, at once: %v", w.name, gotWear(w.f))
					return
				}
			}
		}()
	}
	all.Wait()
}

func TestWearIsDoneWhenItAnswers(t *testing.T) {
	before := runtime.NumGoroutine()
	f := shapedAlike([]int{2, 2, 1, 0}, 1, 2, 3, 4)
	for n := 0; n < 2000; n++ {
		// What is handed in is the caller's again at once.
		f[n%4].Worn = n % 201
		f[n%4].Pages[1] = tornPage()
		if n%3 == 0 {
			f[n%4].Pages[1] = livePage(dirtyRec(freeNumber(f, 1), 1, 1))
		}
		mustWear(t, fmt.Sprint("call ", n), f, wantWear(f))
		mustWear(t, "a block too few", f[:3], notOk())
	}
	// One that has just answered may still be ending, so that a few are let pass.
	if now := runtime.NumGoroutine(); now > before+40 {
		t.Errorf("%d goroutines ahead of the calls, %d behind them", before, now)
	}
}
