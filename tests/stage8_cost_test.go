package tests

import (
	"fmt"
	"math"
	"slices"
	"testing"

	"loop.example/buttery/impl"
)

// stepsOfKind is how many of the steps are of a kind.
func stepsOfKind(steps []impl.Step, kind int) int {
	n := 0
	for _, step := range steps {
		if step.Kind == kind {
			n++
		}
	}
	return n
}

// wantCost is what the document asks of CostOf.
func wantCost(steps []impl.Step) impl.Cost {
	return impl.Cost{Writes: stepsOfKind(steps, 3), Wipes: stepsOfKind(steps, 2), Disks: stepsOfKind(steps, 1)}
}

// wantBegun is the steps of an event that the document calls begun, of an ok store.
func wantBegun(s impl.Store, e impl.Event) []impl.Step {
	if e.Kind == 4 {
		var all []impl.Step
		for addr := 1; addr <= 6; addr++ {
			steps := wantFlush(s, addr)
			s = wantTo(s, steps, len(steps), false)
			all = append(all, steps...)
		}
		return all
	}
	var begun []impl.Step
	for i, step := range wantPlaySteps(s, e) {
		if i < e.C || i == e.C && e.Torn {
			begun = append(begun, step)
		}
	}
	return begun
}

// numbersOf is the numbers of a cost, one behind the other.
func numbersOf(c impl.Cost) []int {
	return []int{c.Writes, c.Wipes, c.Disks}
}

// costOfNumbers is the cost that has such numbers.
func costOfNumbers(n []int) impl.Cost {
	return impl.Cost{Writes: n[0], Wipes: n[1], Disks: n[2]}
}

// noMore says whether no number of one is greater than that of the other one.
func noMore(a impl.Cost, b impl.Cost) bool {
	return a.Writes <= b.Writes && a.Wipes <= b.Wipes && a.Disks <= b.Disks
}

// allSteps is how many steps a cost tells, whichever they are.
func allSteps(c impl.Cost) int {
	return c.Writes + c.Wipes + c.Disks
}

// mustCost holds CostOf against what the document asks.
func mustCost(t *testing.T, steps []impl.Step) impl.Cost {
	t.Helper()
	c := impl.CostOf(steps)
	if want := wantCost(steps); c != want {
		t.Fatalf("CostOf %v is %+v, not %+v", steps, c, want)
	}
	return c
}

// mustCostRun is CostRun, which must be true.
func mustCostRun(t *testing.T, events []impl.Event) impl.Cost {
	t.Helper()
	c, ok := impl.CostRun(events)
	if !ok {
		t.Fatalf("CostRun of %d events is false", len(events))
	}
	return c
}

// mustCostNoRun says that CostRun is nothing and false.
func mustCostNoRun(t *testing.T, events []impl.Event) {
	t.Helper()
	if c, ok := impl.CostRun(events); ok || c != (impl.Cost{}) {
		t.Fatalf("CostRun of %d events is %+v %v", len(events), c, ok)
	}
}

// mustAdd holds CostAdd, either way about, against what is wanted.
func mustAdd(t *testing.T, a impl.Cost, b impl.Cost, want impl.Cost) {
	t.Helper()
	if c, turned := impl.CostAdd(a, b), impl.CostAdd(b, a); c != want || turned != want {
		t.Fatalf("CostAdd of %+v and %+v is %+v, the other way about %+v, not %+v", a, b, c, turned, want)
	}
}

// wantRunCosts is what the document asks of CostRun of none of the events, of the first one, and so on.
func wantRunCosts(events []impl.Event) []impl.Cost {
	all := []impl.Cost{{}}
	s := impl.StoreNew()
	var begun []impl.Step
	for _, e := range events {
		begun = append(begun, wantBegun(s, e)...)
		all = append(all, wantCost(begun))
		s = impl.PlayDo(s, e)
	}
	return all
}

// stepLists is lists of steps of all sorts: by which things happen, of any kinds, and of such as are none.
func stepLists() [][]impl.Step {
	next := steadyNumbers(83)
	all := [][]impl.Step{nil, {}, {diskTold(1, 1)}, {blockWiped(0)}, {recWritten(0, dirtyRec(1, 1, 1))}}
	for i, s := range append(stepStores(), eldestAllDirty()) {
		all = append(all, anySteps(s, next))
		if i%7 == 0 {
			for _, named := range stepsOf(s, 1+i%6, i%10) {
				all = append(all, named.steps)
			}
		}
	}
	wrong := wrongSteps()
	for i := 0; i+9 < len(wrong); i += 9 {
		all = append(all, wrong[i:i+9])
	}
	return all
}

// fullPlay is puts after which no page is clean, and the eldest block has the last records of 1 to 4: the next put has six
// steps, and a flush of 5 or 6 seven.
func fullPlay() []impl.Event {
	events := []impl.Event{putAt(1, 1), putAt(2, 2), putAt(3, 3), putAt(4, 4)}
	for n := range 12 {
		events = append(events, putAt(5+n%2, n%10))
	}
	return events
}

func TestP78CostOfCountsEachKind(t *testing.T) {
	for _, steps := range stepLists() {
		c := mustCost(t, steps)
		such := stepsOfKind(steps, impl.StepDisk) + stepsOfKind(steps, impl.StepWipe) + stepsOfKind(steps, impl.StepWrite)
		if allSteps(c) != such {
			t.Fatalf("CostOf %v is %+v, together not %d", steps, c, such)
		}
	}
}

func TestP78EachRowOfKinds(t *testing.T) {
	each := []impl.Step{diskTold(6, 9), blockWiped(3), recWritten(3, cleanRec(600, 6, 9)), {}, {Kind: 4}}
	for n := range 5 * 5 * 5 * 5 {
		var steps []impl.Step
		for rest := n; rest > 0; rest /= 5 {
			steps = append(steps, each[rest%5])
		}
		mustCost(t, steps)
	}
}

func TestP78TwoListsOneBehindTheOther(t *testing.T) {
	lists := stepLists()
	for i, one := range lists {
		other := lists[(i*37+11)%len(lists)]
		c := mustCost(t, slices.Concat(one, other))
		if sum := impl.CostAdd(impl.CostOf(one), impl.CostOf(other)); sum != c {
			t.Fatalf("CostOf %v and %v is %+v, CostAdd of both %+v", one, other, c, sum)
		}
	}
}

func TestP78EachPlaceToCutAList(t *testing.T) {
	steps := slices.Concat(stepLists()[5:25]...)
	all := mustCost(t, steps)
	for cut := range len(steps) + 1 {
		if sum := impl.CostAdd(impl.CostOf(steps[:cut]), impl.CostOf(steps[cut:])); sum != all {
			t.Fatalf("cut at %d: %+v, not %+v", cut, sum, all)
		}
	}
}

func TestCostOfAStepGoesByItsKindAlone(t *testing.T) {
	for kind, want := range map[int]impl.Cost{1: {Disks: 1}, 2: {Wipes: 1}, 3: {Writes: 1}} {
		// What it has besides is no matter, and need not be ok.
		for _, step := range append(wrongSteps(), diskTold(1, 1), blockWiped(1), recWritten(1, dirtyRec(1, 1, 1))) {
			step.Kind = kind
			if c := impl.CostOf([]impl.Step{step}); c != want {
				t.Fatalf("CostOf %+v is %+v, not %+v", step, c, want)
			}
		}
	}
}

func TestCostOfStepsOfNoKind(t *testing.T) {
	for _, kind := range append([]int{4, -2, -3, 1<<32 + 2, 1<<32 + 3, 258, 259}, noKinds()...) {
		for _, step := range []impl.Step{diskTold(1, 1), blockWiped(1), recWritten(1, dirtyRec(1, 1, 1)), {}} {
			step.Kind = kind
			for _, steps := range [][]impl.Step{{step}, {step, step, step}} {
				if c := impl.CostOf(steps); c != (impl.Cost{}) {
					t.Fatalf("CostOf %+v is %+v", steps, c)
				}
			}
			// Nor does one change what others beside it cost.
			if c := impl.CostOf([]impl.Step{step, blockWiped(1), step}); c != (impl.Cost{Wipes: 1}) {
				t.Fatalf("CostOf of one that is wiped, and %+v, is %+v", step, c)
			}
		}
	}
}

func TestCostOfNone(t *testing.T) {
	many := slices.Repeat([]impl.Step{blockWiped(1)}, 5)
	for _, none := range [][]impl.Step{nil, {}, make([]impl.Step, 0, 9), many[:0], many[5:]} {
		if c := impl.CostOf(none); c != (impl.Cost{}) {
			t.Errorf("CostOf none is %+v", c)
		}
	}
}

func TestCostOfAsManyStepsAsThereAre(t *testing.T) {
	for _, size := range []int{1, 2, 60, 61, 255, 256, 257, 600, 9998, 9999, 10000, 20001, 70000} {
		for _, step := range []impl.Step{diskTold(2, 3), blockWiped(2), recWritten(2, cleanRec(3, 4, 5))} {
			c := mustCost(t, slices.Repeat([]impl.Step{step}, size))
			if allSteps(c) != size {
				t.Errorf("CostOf %d steps is %+v", size, c)
			}
		}
	}
	// What CostAdd takes is bounded, but not what it answers, so that of two lists it is still the cost of both.
	most := slices.Repeat([]impl.Step{recWritten(2, cleanRec(3, 4, 5))}, 9999)
	c := impl.CostOf(most)
	mustAdd(t, c, c, impl.CostOf(slices.Concat(most, most)))
}

func TestP79CostAddEitherWayAbout(t *testing.T) {
	next := steadyNumbers(89)
	some := func() int {
		return []int{0, 1, next(10), next(100), next(10000), 9998, 9999}[next(7)]
	}
	for range 5000 {
		a := impl.Cost{Writes: some(), Wipes: some(), Disks: some()}
		b := impl.Cost{Writes: some(), Wipes: some(), Disks: some()}
		mustAdd(t, a, b, impl.Cost{Writes: a.Writes + b.Writes, Wipes: a.Wipes + b.Wipes, Disks: a.Disks + b.Disks})
		mustAdd(t, a, impl.Cost{}, a)
	}
}

func TestP79OfTwoThatAreTold(t *testing.T) {
	a, b := impl.Cost{Writes: 3, Wipes: 20, Disks: 100}, impl.Cost{Writes: 4, Wipes: 50, Disks: 700}
	mustAdd(t, a, b, impl.Cost{Writes: 7, Wipes: 70, Disks: 800})
	mustAdd(t, a, impl.Cost{}, a)
	mustAdd(t, impl.Cost{}, impl.Cost{}, impl.Cost{})
}

func TestCostAddOfNumbersAtTheLimits(t *testing.T) {
	good := []int{0, 1, 9998, 9999}
	bad := []int{-1, 10000, -9999, -10000, 10001, 1 << 32, math.MinInt, math.MaxInt}
	for place := range 3 {
		for _, others := range []int{0, 1, 7, 9999} {
			with := func(n int) impl.Cost {
				numbers := []int{others, others, others}
				numbers[place] = n
				return costOfNumbers(numbers)
			}
			for _, b := range []impl.Cost{{}, {Writes: 1, Wipes: 2, Disks: 3}, {Writes: 9999, Wipes: 9999, Disks: 9999}} {
				for _, n := range good {
					sum := numbersOf(with(n))
					for i, more := range numbersOf(b) {
						sum[i] += more
					}
					mustAdd(t, with(n), b, costOfNumbers(sum))
				}
				for _, n := range bad {
					mustAdd(t, with(n), b, impl.Cost{})
				}
			}
			// Of both a number that cannot be: they do not make up for each other.
			for _, n := range bad {
				for _, other := range bad {
					mustAdd(t, with(n), with(other), impl.Cost{})
				}
			}
		}
	}
}

func TestCostAddOfSumsAboveTheLimit(t *testing.T) {
	most := impl.Cost{Writes: 9999, Wipes: 9999, Disks: 9999}
	mustAdd(t, most, most, impl.Cost{Writes: 19998, Wipes: 19998, Disks: 19998})
	mustAdd(t, most, impl.Cost{Writes: 1}, impl.Cost{Writes: 10000, Wipes: 9999, Disks: 9999})
	mustAdd(t, most, impl.Cost{Wipes: 1}, impl.Cost{Writes: 9999, Wipes: 10000, Disks: 9999})
	mustAdd(t, most, impl.Cost{Disks: 1}, impl.Cost{Writes: 9999, Wipes: 9999, Disks: 10000})
	mustAdd(t, impl.Cost{Writes: 5000}, impl.Cost{Writes: 5000}, impl.Cost{Writes: 10000})
}

func TestCostRunIsAsTheDocumentSays(t *testing.T) {
	var all impl.Cost
	for _, events := range playsOf(allSorts()) {
		for size, want := range wantRunCosts(events) {
			if size%6 != 5 && size != len(events) {
				continue
			}
			if c := mustCostRun(t, events[:size]); c != want {
				t.Fatalf("CostRun(%+v) is %+v, not %+v", events[:size], c, want)
			}
			all = impl.CostAdd(all, want)
		}
	}
	if all.Writes < 5000 || all.Wipes < 1000 || all.Disks < 1000 {
		t.Errorf("all together cost just %+v", all)
	}
}

// costOfPlaySteps is CostOf of PlaySteps of an event of which all steps are done; of EvAll of each flush that it is.
func costOfPlaySteps(s impl.Store, e impl.Event) impl.Cost {
	if e.Kind != impl.EvAll {
		return impl.CostOf(impl.PlaySteps(s, e))
	}
	var all impl.Cost
	for addr := 1; addr <= 6; addr++ {
		flush := whole(impl.EvFlush, addr, 0)
		all = impl.CostAdd(all, impl.CostOf(impl.PlaySteps(s, flush)))
		s = impl.PlayDo(s, flush)
	}
	return all
}

func TestP80EventByEventCostOfPlaySteps(t *testing.T) {
	told := 0
	for _, events := range playsOf(uncutSorts()) {
		var sum impl.Cost
		for i, p := range playOf(events) {
			sum = impl.CostAdd(sum, costOfPlaySteps(p.was, p.e))
			if c := mustCostRun(t, events[:i+1]); c != sum {
				t.Fatalf("CostRun(%+v) is %+v, not %+v", events[:i+1], c, sum)
			}
			if p.e.Kind == 4 {
				told++
			}
		}
	}
	if told < 100 {
		t.Errorf("just %d were EvAll", told)
	}
}

func TestP80OfMoreEventsItIsNoLess(t *testing.T) {
	for _, events := range playsOf(allSorts()) {
		var last impl.Cost
		for size := 0; size <= len(events); size += 1 + size%3 {
			c := mustCostRun(t, events[:size])
			if !noMore(last, c) {
				t.Fatalf("CostRun(%+v) is %+v, of fewer it was %+v", events[:size], c, last)
			}
			last = c
		}
	}
}

func TestPlaysThatCostWhatIsTold(t *testing.T) {
	full := fullPlay()
	for name, c := range map[string]struct {
		events []impl.Event
		want   impl.Cost
	}{
		"a put":                         {[]impl.Event{putAt(1, 1)}, impl.Cost{Writes: 1}},
		"a put, and its flush":          {[]impl.Event{putAt(1, 1), whole(2, 1, 0)}, impl.Cost{Writes: 2, Disks: 1}},
		"a flush of nothing":            {[]impl.Event{whole(2, 1, 0)}, impl.Cost{}},
		"a fill":                        {[]impl.Event{whole(3, 1, 0)}, impl.Cost{Writes: 1}},
		"a fill twice":                  {[]impl.Event{whole(3, 1, 0), whole(3, 1, 0)}, impl.Cost{Writes: 1}},
		"a put that is torn":            {[]impl.Event{fallen(putAt(1, 1), 0, true)}, impl.Cost{Writes: 1}},
		"a put that is not begun":       {[]impl.Event{fallen(putAt(1, 1), 0, false)}, impl.Cost{}},
		"a flush torn at the slow disk": {[]impl.Event{putAt(1, 1), fallen(whole(2, 1, 0), 0, true)}, impl.Cost{Writes: 1, Disks: 1}},
		"a flush torn at its record":    {[]impl.Event{putAt(1, 1), fallen(whole(2, 1, 0), 1, true)}, impl.Cost{Writes: 2, Disks: 1}},
		"three, and all told":           {[]impl.Event{putAt(6, 1), putAt(1, 2), putAt(3, 3), tellAll()}, impl.Cost{Writes: 6, Disks: 3}},
		"all told of nothing":           {[]impl.Event{tellAll()}, impl.Cost{}},
		"sixteen puts":                  {full, impl.Cost{Writes: 16}},
		"one more, and four that live":  {append(slices.Clone(full), putAt(5, 1)), impl.Cost{Writes: 17, Wipes: 1, Disks: 4}},
		// The flush of 1 wipes the block that has 1 to 4: of 5 and 6 alone there is still a flush then.
		"all told where a block is wiped": {append(slices.Clone(full), tellAll()), impl.Cost{Writes: 19, Wipes: 1, Disks: 7}},
		"a fill of a value that is there": {append(slices.Clone(full), whole(3, 1, 0)), impl.Cost{Writes: 16}},
	} {
		if got := mustCostRun(t, c.events); got != c.want {
			t.Errorf("%s: %+v, not %+v", name, got, c.want)
		}
	}
}

func TestEachStepThatIsBegun(t *testing.T) {
	full := fullPlay()
	for _, c := range []struct {
		e     impl.Event
		steps []impl.Cost
	}{
		{putAt(1, 9), []impl.Cost{{}, {Disks: 1}, {Disks: 2}, {Disks: 3}, {Disks: 4}, {Disks: 4, Wipes: 1}, {Disks: 4, Wipes: 1, Writes: 1}}},
		{whole(2, 6, 0), []impl.Cost{{}, {Disks: 1}, {Disks: 2}, {Disks: 3}, {Disks: 4}, {Disks: 5}, {Disks: 5, Wipes: 1}, {Disks: 5, Wipes: 1, Writes: 1}}},
		// The value of 3 is told twice: once as it is flushed, and once as its block is wiped meanwhile.
		{whole(2, 3, 0), []impl.Cost{{}, {Disks: 1}, {Disks: 2}, {Disks: 3}, {Disks: 4}, {Disks: 5}, {Disks: 5, Wipes: 1}, {Disks: 5, Wipes: 1, Writes: 1}}},
		{whole(3, 3, 0), []impl.Cost{{}}},
		{whole(4, 0, 0), []impl.Cost{{}}},
	} {
		last := len(c.steps) - 1
		for _, cut := range []int{math.MinInt, -7, -1, 0, 1, 2, 3, 4, 5, 6, 7, 8, 60, math.MaxInt} {
			for _, torn := range []bool{false, true} {
				want := c.steps[max(0, min(cut, last))]
				if torn && cut >= 0 && cut < last {
					want = c.steps[cut+1]
				}
				if c.e.Kind == 4 {
					want = impl.Cost{Disks: 7, Wipes: 1, Writes: 3}
				}
				want.Writes += 16
				if got := mustCostRun(t, append(slices.Clone(full), fallen(c.e, cut, torn))); got != want {
					t.Errorf("%+v costs %+v, not %+v", fallen(c.e, cut, torn), got, want)
				}
			}
		}
	}
}

func TestEventsThatFallAtEachOfTheirSteps(t *testing.T) {
	begun := map[int]int{}
	for i, events := range playsOf(allSorts()) {
		size := min(len(events), 59)
		was, s := mustCostRun(t, events[:size]), mustRun(t, events[:size])
		for _, e := range eventsOf(1+i%6, i%10) {
			everyFall(s, e, func(e impl.Event) {
				want := impl.CostAdd(was, wantCost(wantBegun(s, e)))
				if c := mustCostRun(t, append(slices.Clone(events[:size]), e)); c != want {
					t.Fatalf("behind %v %+v leaves %+v, not %+v", s, e, c, want)
				}
				begun[len(wantBegun(s, e))]++
			})
		}
	}
	for n := range 5 {
		if begun[n] < 50 {
			t.Errorf("just %d events with %d steps that are begun", begun[n], n)
		}
	}
}

func TestEvAllCostsTheSameWhateverElseItHas(t *testing.T) {
	for _, events := range append(playsOf(tornSorts()[:2]), fullPlay(), nil) {
		size := min(len(events), 59)
		want := wantRunCosts(append(slices.Clone(events[:size]), tellAll()))[size+1]
		for _, e := range evAlls() {
			if c := mustCostRun(t, append(slices.Clone(events[:size]), e)); c != want {
				t.Fatalf("behind %+v %+v leaves %+v, not %+v", events[:size], e, c, want)
			}
		}
	}
}

func TestEventsThatCostNothing(t *testing.T) {
	for _, events := range append(playsOf(tornSorts()[:3]), fullPlay(), nil) {
		size := min(len(events), 59)
		want := mustCostRun(t, events[:size])
		for _, e := range idle() {
			if c := mustCostRun(t, append(slices.Clone(events[:size]), e)); c != want {
				t.Fatalf("behind %+v %+v leaves %+v, not %+v", events[:size], e, c, want)
			}
		}
	}
}

func TestEventsThatCostNothingAmongOthers(t *testing.T) {
	all := idle()
	for i, events := range playsOf(allSorts()) {
		var with []impl.Event
		for n, e := range events[:len(events)/2] {
			with = append(with, e, all[(n*7+i)%len(all)])
		}
		if a, b := mustCostRun(t, with), mustCostRun(t, events[:len(events)/2]); a != b {
			t.Fatalf("CostRun(%+v) is %+v, not %+v", with, a, b)
		}
	}
	for _, e := range all {
		if c := mustCostRun(t, slices.Repeat([]impl.Event{e}, 60)); c != (impl.Cost{}) {
			t.Fatalf("sixty times %+v cost %+v", e, c)
		}
	}
}

// longUncut is uncut plays of all sizes, of sorts that wipe much and little.
func longUncut() [][]impl.Event {
	all := playsOf(uncutSorts())
	for size := 0; size <= 60; size++ {
		all = append(all, steadyPlay(60)[:size])
		all = append(all, uncutSorts()[1].plays(1)[0][:size])
		all = append(all, slices.Repeat([]impl.Event{putAt(1, 1), whole(2, 1, 0)}, 30)[:size])
	}
	// Six records of puts, and six of EvAll: so many of so few events.
	round := []impl.Event{putAt(1, 1), putAt(2, 2), putAt(3, 3), putAt(4, 4), putAt(5, 5), putAt(6, 6), tellAll()}
	for size := 1; size <= 8; size++ {
		all = append(all, slices.Repeat(round, size))
	}
	return all
}

func TestP81HowManyBlocksAreWiped(t *testing.T) {
	most := 0
	for _, events := range longUncut() {
		c := mustCostRun(t, events)
		// As long as no block is wiped there may be fewer records than pages, so that the promise's difference is below 0.
		if c.Wipes > 0 && c.Wipes*4 > c.Writes-16+4 {
			t.Fatalf("CostRun(%+v) is %+v", events, c)
		}
		if c.Writes <= 16 && c.Wipes != 0 {
			t.Fatalf("CostRun(%+v) is %+v", events, c)
		}
		if want := max(0, c.Writes-16+3) / 4; c.Wipes != want {
			t.Fatalf("CostRun(%+v) is %+v, not %d wiped", events, c, want)
		}
		if all := impl.WearAll(mustRun(t, events).Flash); all != c.Wipes {
			t.Fatalf("CostRun(%+v) is %+v, WearAll is %d", events, c, all)
		}
		most = max(most, c.Wipes)
	}
	if most < 20 {
		t.Errorf("at most %d were wiped", most)
	}
}

func TestP82WhatTheSlowDiskIsTold(t *testing.T) {
	told := 0
	for _, events := range longUncut() {
		puts := len(just(events, func(e impl.Event) bool { return e.Kind == 1 }))
		c := mustCostRun(t, events)
		if c.Disks > 2*puts {
			t.Fatalf("%d were put, but CostRun(%+v) is %+v", puts, events, c)
		}
		told += c.Disks
	}
	if told < 1000 {
		t.Errorf("just %d values were told", told)
	}
}

// diskSteps is how often the slow disk was told of each address by a play.
func diskSteps(events []impl.Event) [6]int {
	var all [6]int
	for _, p := range playOf(events) {
		for _, step := range wantBegun(p.was, p.e) {
			if step.Kind == 1 {
				all[step.Addr-1]++
			}
		}
	}
	return all
}

func TestP82OfEachAddressAtMostTwiceWhatWasPut(t *testing.T) {
	for _, events := range longUncut() {
		told, all := diskSteps(events), 0
		for i, n := range told {
			puts := len(just(events, func(e impl.Event) bool { return e.Kind == 1 && e.A == i+1 }))
			if n > 2*puts {
				t.Fatalf("%d was put %d times, but told %d times: %+v", i+1, puts, n, events)
			}
			all += n
		}
		if c := mustCostRun(t, events); c.Disks != all {
			t.Fatalf("CostRun(%+v) is %+v, but %d were told", events, c, all)
		}
	}
}

func TestP82TwiceIsMet(t *testing.T) {
	// Just the first of these lives on the block that its own flush wipes.
	events := append([]impl.Event{putAt(1, 7)}, slices.Repeat([]impl.Event{putAt(2, 5)}, 15)...)
	if c := mustCostRun(t, events); c.Disks != 0 {
		t.Errorf("%+v", c)
	}
	events = append(events, whole(2, 1, 0))
	if c := mustCostRun(t, events); c != (impl.Cost{Writes: 17, Wipes: 1, Disks: 2}) || diskSteps(events) != [6]int{2} {
		t.Errorf("%+v, told %v", c, diskSteps(events))
	}
	events = append(events, slices.Repeat([]impl.Event{putAt(3, 3)}, 20)...)
	if diskSteps(events)[0] != 2 {
		t.Errorf("told %v", diskSteps(events))
	}
}

func TestP83WearIsWhatWasBegunToBeWiped(t *testing.T) {
	torn := 0
	for _, events := range playsOf(allSorts()) {
		for size := len(events); size > len(events)/2; size -= 7 {
			c := mustCostRun(t, events[:size])
			// No block can be worn out by so few events, so that each that is begun wears one.
			if all := impl.WearAll(mustRun(t, events[:size]).Flash); all != c.Wipes {
				t.Fatalf("CostRun(%+v) is %+v, WearAll is %d", events[:size], c, all)
			}
		}
		for _, p := range playOf(events) {
			begun := wantBegun(p.was, p.e)
			if p.isTorn && len(begun) > 0 && begun[len(begun)-1].Kind == 2 {
				torn++
			}
		}
	}
	if torn < 50 {
		t.Errorf("just %d fell as a block was wiped", torn)
	}
}

func TestP83WipesThatFallAgainAndAgain(t *testing.T) {
	base := slices.Repeat([]impl.Event{putAt(3, 5)}, 16)
	for n := 0; n <= 44; n++ {
		events := append(slices.Clone(base), slices.Repeat([]impl.Event{fallen(putAt(3, 6), 0, true)}, n)...)
		c := mustCostRun(t, events)
		if c != (impl.Cost{Writes: 16, Wipes: n}) || impl.WearAll(mustRun(t, events).Flash) != n {
			t.Fatalf("%d that fall as a block is wiped: %+v", n, c)
		}
		// Ahead of the wipe, and not torn, nothing is begun.
		events = append(slices.Clone(base), slices.Repeat([]impl.Event{fallen(putAt(3, 6), 0, false)}, n)...)
		if c := mustCostRun(t, events); c != (impl.Cost{Writes: 16}) {
			t.Fatalf("%d that fall ahead of it: %+v", n, c)
		}
	}
}

func TestP84OfTheFirstSoManyItIsNoMore(t *testing.T) {
	for _, steps := range append(stepLists(), slices.Concat(stepLists()[5:15]...)) {
		var last impl.Cost
		for cut := range len(steps) + 1 {
			c := impl.CostOf(steps[:cut])
			if !noMore(last, c) || allSteps(c) > allSteps(last)+1 {
				t.Fatalf("CostOf the first %d of %v is %+v, of one less %+v", cut, steps, c, last)
			}
			last = c
		}
		if all := impl.CostOf(steps); all != last {
			t.Fatalf("CostOf %v is %+v, not %+v", steps, all, last)
		}
	}
}

func TestP84AnEventThatFallsAtOnceCostsAtMostOne(t *testing.T) {
	counts := map[int]int{}
	for i, events := range playsOf(allSorts()) {
		size := min(len(events), 59)
		was := mustCostRun(t, events[:size])
		for addr := 1 + i%2; addr <= 6; addr += 2 {
			for _, e := range eventsOf(addr, i%10)[:3] {
				begun := mustCostRun(t, append(slices.Clone(events[:size]), fallen(e, 0, false)))
				torn := mustCostRun(t, append(slices.Clone(events[:size]), fallen(e, 0, true)))
				done := mustCostRun(t, append(slices.Clone(events[:size]), e))
				more := allSteps(torn) - allSteps(was)
				if begun != was || more < 0 || more > 1 || !noMore(was, torn) || !noMore(torn, done) {
					t.Fatalf("behind %+v, which cost %+v, %+v leaves %+v, torn at once %+v, done %+v", events[:size], was, e, begun, torn, done)
				}
				counts[more]++
			}
		}
	}
	if counts[0] < 300 || counts[1] < 300 {
		t.Errorf("of no step and of one there are %v: too few of one sort", counts)
	}
}

func TestP85OfPutsAloneAsManyAreWritten(t *testing.T) {
	next := steadyNumbers(97)
	for size := 0; size <= 60; size++ {
		for _, addrs := range []int{1, 2, 6} {
			var events []impl.Event
			for range size {
				// Six steps are all that a put may have.
				events = append(events, fallen(putAt(1+next(addrs), next(10)), 6+next(3), next(2) == 0))
			}
			if c := mustCostRun(t, events); c.Writes != size {
				t.Fatalf("CostRun(%+v) is %+v, not %d written", events, c, size)
			}
		}
	}
}

func TestP86EachFlushTwice(t *testing.T) {
	twice := 0
	for _, events := range longUncut() {
		var once, with []impl.Event
		for _, e := range events {
			if len(with) > 58 {
				break
			}
			once, with = append(once, e), append(with, e)
			if e.Kind == 2 {
				with = append(with, e)
				twice++
			}
		}
		if a, b := mustCostRun(t, once), mustCostRun(t, with); a != b {
			t.Fatalf("CostRun(%+v) is %+v, each flush twice %+v", once, a, b)
		}
	}
	if twice < 500 {
		t.Errorf("just %d were flushed twice", twice)
	}
}

func TestP86AFlushTwiceWhereItsBlockIsWiped(t *testing.T) {
	for addr := 1; addr <= 6; addr++ {
		flush := whole(2, addr, 0)
		once := mustCostRun(t, append(fullPlay(), flush))
		if once != (impl.Cost{Writes: 17, Wipes: 1, Disks: 5}) {
			t.Errorf("the flush of %d leaves %+v", addr, once)
		}
		for n := 2; n <= 44; n++ {
			if c := mustCostRun(t, append(fullPlay(), slices.Repeat([]impl.Event{flush}, n)...)); c != once {
				t.Fatalf("%d flushes of %d leave %+v, not %+v", n, addr, c, once)
			}
		}
	}
}

func TestCostRunOfNone(t *testing.T) {
	for _, none := range [][]impl.Event{nil, {}, make([]impl.Event, 0, 70), slices.Repeat([]impl.Event{putAt(1, 1)}, 61)[:0]} {
		if c := mustCostRun(t, none); c != (impl.Cost{}) {
			t.Errorf("CostRun of none is %+v", c)
		}
	}
}

func TestCostRunOfAsManyAsThereMayBe(t *testing.T) {
	for _, e := range []impl.Event{{}, putAt(1, 1), fallen(putAt(2, 3), 0, true), whole(2, 1, 0), whole(3, 1, 0), tellAll()} {
		for size := 57; size <= 60; size++ {
			mustCostRun(t, slices.Repeat([]impl.Event{e}, size))
		}
		for _, size := range []int{61, 62, 120, 1000} {
			mustCostNoRun(t, slices.Repeat([]impl.Event{e}, size))
		}
	}
	// The last one counts, and what stands in the spare room does not.
	events := append(slices.Repeat([]impl.Event{whole(3, 1, 0)}, 59), putAt(2, 9), putAt(2, 8))
	if c := mustCostRun(t, events[:60]); c != (impl.Cost{Writes: 2}) {
		t.Errorf("%+v", c)
	}
	mustCostNoRun(t, events)
}

func TestCostOfLeavesItsSteps(t *testing.T) {
	for _, steps := range stepLists() {
		list := roomySteps(steps)
		was := slices.Clone(list[:cap(list)])
		a, b := mustCost(t, list), mustCost(t, list)
		if a != b || a != wantCost(steps) {
			t.Fatalf("CostOf %v is %+v, then %+v", steps, a, b)
		}
		if !slices.Equal(list[:cap(list)], was) {
			t.Fatalf("%v became %v", was, list[:cap(list)])
		}
	}
}

func TestCostRunLeavesItsEvents(t *testing.T) {
	junk := impl.Event{Kind: 1, A: 1, B: 1, C: 77, Torn: true}
	for _, events := range playsOf(allSorts()) {
		given := append(make([]impl.Event, 0, len(events)+3), events...)
		given = append(given, junk, junk, junk)
		was := slices.Clone(given)
		a, b := mustCostRun(t, given[:len(events)]), mustCostRun(t, given[:len(events)])
		if !slices.Equal(given, was) {
			t.Fatalf("%+v became %+v", was, given)
		}
		if want := mustCostRun(t, events); a != want || b != want {
			t.Fatalf("CostRun(%+v) is %+v, then %+v, without spare room %+v", events, a, b, want)
		}
	}
	many := slices.Repeat([]impl.Event{junk}, 64)
	mustCostNoRun(t, many[:61])
	if !slices.Equal(many, slices.Repeat([]impl.Event{junk}, 64)) {
		t.Error("events that are too many were changed")
	}
}

func TestNoCostHangsOnAnotherOne(t *testing.T) {
	events := tornSorts()[1].plays(1)[0]
	want := wantRunCosts(events)[len(events)]
	steps := impl.PlaySteps(mustRun(t, fullPlay()), putAt(1, 1))
	for i, others := range playsOf(tornSorts()) {
		mustCostRun(t, others)
		mustCostNoRun(t, slices.Repeat(others[:1], 61))
		impl.CostAdd(impl.Cost{Writes: 10000 - i%2}, want)
		if c := mustCostRun(t, events); c != want {
			t.Fatalf("behind another play %+v, not %+v", c, want)
		}
		if c := mustCost(t, steps); c != (impl.Cost{Writes: 1, Wipes: 1, Disks: 4}) {
			t.Fatalf("%v cost %+v", steps, c)
		}
	}
}

func TestCostsReckonedAtOnce(t *testing.T) {
	plays := playsOf(allSorts())
	answers := make(chan string, len(plays))
	for _, events := range plays {
		go func() {
			want := wantRunCosts(events)[len(events)]
			if c, ok := impl.CostRun(events); !ok || c != want {
				answers <- fmt.Sprintf("CostRun(%+v) is %+v %v, not %+v", events, c, ok, want)
				return
			}
			answers <- ""
		}()
	}
	for range plays {
		if fault := <-answers; fault != "" {
			t.Error(fault)
		}
	}
}
