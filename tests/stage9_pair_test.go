package tests

import (
	"fmt"
	"math"
	"slices"
	"testing"

	"loop.example/buttery/impl"
)

// pairStep is a step of a pair: what is done, and whether it is done with the second store.
type pairStep struct {
	step   impl.Step
	second bool
}

// wantPairSteps is the steps of PairPut of an ok pair, all of them one behind the other.
func wantPairSteps(p impl.Pair, addr int, val int) []pairStep {
	var all []pairStep
	if p.Lost != 1 {
		for _, step := range wantToWrite(p.A, 1, addr, val) {
			all = append(all, pairStep{step, false})
		}
	}
	if p.Lost != 2 {
		for _, step := range wantToWrite(p.B, 1, addr, val) {
			all = append(all, pairStep{step, true})
		}
	}
	return all
}

// copyPair is the same pair in other memory, by nothing of the program.
func copyPair(p impl.Pair) impl.Pair {
	return impl.Pair{A: copyStore(p.A), B: copyStore(p.B), Lost: p.Lost}
}

// withLost is the pair, but that it says another one was lost.
func withLost(p impl.Pair, lost int) impl.Pair {
	p.Lost = lost
	return p
}

// wantPairPut is what the document asks of PairPut of an ok pair, and a cut that is not below 0.
func wantPairPut(p impl.Pair, addr int, val int, cut int, torn bool) impl.Pair {
	to := copyPair(p)
	for i, one := range wantPairSteps(p, addr, val) {
		if i > cut || i == cut && !torn {
			break
		}
		store := &to.A
		if one.second {
			store = &to.B
		}
		*store = wantStep(*store, one.step, i == cut)
	}
	return to
}

// wantSame is one store made the same as the other one, both of them ok.
func wantSame(one impl.Store, other impl.Store) impl.Store {
	has, wanted := wantValues(one), wantValues(other)
	for i := range wanted {
		if has[i] != wanted[i] {
			steps := wantToWrite(one, 1, i+1, wanted[i])
			one = wantTo(one, steps, len(steps), false)
		}
	}
	return copyStore(one)
}

// wantMend is what the document asks of PairMend of an ok pair.
func wantMend(p impl.Pair) impl.Pair {
	p = copyPair(p)
	if p.Lost == 0 {
		p.B = wantSame(p.B, p.A)
	}
	return p
}

// wantLose is what the document asks of PairLose, of 1 or 2, of an ok pair.
func wantLose(p impl.Pair, which int) impl.Pair {
	p = copyPair(p)
	if p.Lost > 0 {
		return p
	}
	clean := impl.Store{Flash: seqBlocks(), Disk: make([]int, 6)}
	if which == 1 {
		return impl.Pair{A: clean, B: p.B, Lost: 1}
	}
	return impl.Pair{A: p.A, B: clean, Lost: 2}
}

// wantBack is what the document asks of PairBack of an ok pair.
func wantBack(p impl.Pair) impl.Pair {
	p = copyPair(p)
	switch p.Lost {
	case 1:
		p.A = wantSame(p.A, p.B)
	case 2:
		p.B = wantSame(p.B, p.A)
	}
	return withLost(p, 0)
}

// wantPairAll is the values of an ok pair, as the document says.
func wantPairAll(p impl.Pair) []int {
	if p.Lost == 1 {
		return wantValues(p.B)
	}
	return wantValues(p.A)
}

// samePair holds pairs against each other.
func samePair(a impl.Pair, b impl.Pair) bool {
	return sameStore(a.A, b.A) && sameStore(a.B, b.B) && a.Lost == b.Lost
}

// mustPair holds a pair that was answered against the one that is wanted, and says that it is ok.
func mustPair(t *testing.T, what string, was impl.Pair, got impl.Pair, want impl.Pair) impl.Pair {
	t.Helper()
	if !samePair(got, want) {
		t.Fatalf("%s of %v\nis   %v,\nnot  %v", what, was, got, want)
	}
	if all := impl.PairAll(got); !impl.PairOk(got) || !slices.Equal(all, wantPairAll(want)) {
		t.Fatalf("%s of %v: %v: ok %v, PairAll %v, not %v", what, was, got, impl.PairOk(got), all, wantPairAll(want))
	}
	return got
}

// mustPairPut, mustMend, mustLose and mustBack are what the program answers, held against what the document asks.
func mustPairPut(t *testing.T, p impl.Pair, addr int, val int, cut int, torn bool) impl.Pair {
	t.Helper()
	what := fmt.Sprint("PairPut ", addr, " ", val, " cut at ", cut, ", torn ", torn, ",")
	return mustPair(t, what, p, impl.PairPut(p, addr, val, cut, torn), wantPairPut(p, addr, val, cut, torn))
}

func mustMend(t *testing.T, p impl.Pair) impl.Pair {
	t.Helper()
	return mustPair(t, "PairMend", p, impl.PairMend(p), wantMend(p))
}

func mustLose(t *testing.T, p impl.Pair, which int) impl.Pair {
	t.Helper()
	return mustPair(t, fmt.Sprint("PairLose ", which), p, impl.PairLose(p, which), wantLose(p, which))
}

func mustBack(t *testing.T, p impl.Pair) impl.Pair {
	t.Helper()
	return mustPair(t, "PairBack", p, impl.PairBack(p), wantBack(p))
}

// mustAll says that a pair is ok, and has such values.
func mustAll(t *testing.T, what string, p impl.Pair, vals []int) {
	t.Helper()
	if all := impl.PairAll(p); !impl.PairOk(p) || !slices.Equal(all, vals) {
		t.Fatalf("%s: %v: ok %v, PairAll %v, not %v", what, p, impl.PairOk(p), all, vals)
	}
}

// pairFalls calls what is wanted with each number of steps, from none to more than there are, the next one torn or not.
func pairFalls(p impl.Pair, addr int, val int, then func(cut int, torn bool)) {
	for cut := 0; cut <= len(wantPairSteps(p, addr, val))+1; cut++ {
		then(cut, false)
		then(cut, true)
	}
	then(math.MaxInt, false)
	then(math.MaxInt, true)
}

// canPut says whether a record can be written yet.
func canPut(s impl.Store) bool {
	return len(wantToWrite(s, 1, 1, 0)) > 0
}

// allCanPut says whether a record can be written in each store that was not lost.
func allCanPut(p impl.Pair) bool {
	return (p.Lost == 1 || canPut(p.A)) && (p.Lost == 2 || canPut(p.B))
}

// haveSame says whether both stores have the same values.
func haveSame(p impl.Pair) bool {
	return slices.Equal(wantValues(p.A), wantValues(p.B))
}

// wornOut and usedUp are stores in which no record can be written any more, though all is dirty; in oneLeft there can be one.
func wornOut() impl.Store {
	s := eldestAllDirty()
	s.Flash[2].Worn = 200
	return s
}

func usedUp() impl.Store {
	s := allDirty()
	s.Flash[1].Pages[1].Rec.Seq = 600
	return s
}

func oneLeft() impl.Store {
	s := allDirty()
	s.Flash[1].Pages[1].Rec.Seq = 599
	return s
}

// onDisk is a store without any record, whose slow disk has the values of another one.
func onDisk(s impl.Store) impl.Store {
	return impl.Store{Flash: seqBlocks(), Disk: wantValues(s)}
}

// edgePairs is any two of such stores, whichever was lost.
func edgePairs() []impl.Pair {
	stores := []impl.Store{impl.StoreNew(), allDirty(), allClean(), eldestAllDirty(), wornOut(), usedUp(), oneLeft(), onDisk(eldestAllDirty())}
	var all []impl.Pair
	for _, a := range stores {
		for _, b := range stores {
			for lost := 0; lost <= 2; lost++ {
				all = append(all, copyPair(impl.Pair{A: a, B: b, Lost: lost}))
			}
		}
	}
	return all
}

// wipingPairs is any two stores that wipe a block next, on which may live what eldestCases says.
func wipingPairs() []impl.Pair {
	var all []impl.Pair
	for _, a := range eldestCases() {
		for _, b := range eldestCases() {
			all = append(all, impl.Pair{A: eldestPages(a.pages...), B: eldestPages(b.pages...)})
		}
	}
	return all
}

// pairStores is each third of stepStores, of which pairs are made.
func pairStores() []impl.Store {
	var some []impl.Store
	for i, s := range stepStores() {
		if i < 4 || i%3 == 1 {
			some = append(some, s)
		}
	}
	return some
}

// samePairs is pairs both of which have the same, be they written alike or not, whichever was lost.
func samePairs() []impl.Pair {
	var all []impl.Pair
	for i, s := range pairStores() {
		for _, other := range []impl.Store{copyStore(s), onDisk(s)} {
			p := impl.Pair{A: s, B: other, Lost: i % 3}
			if i%2 == 0 {
				p.A, p.B = p.B, p.A
			}
			all = append(all, p)
		}
	}
	return all
}

// otherPairs is pairs of any two stores, and of two that differ in one address, or in all, whichever was lost.
func otherPairs() []impl.Pair {
	var all []impl.Pair
	stores := pairStores()
	for i, s := range stores {
		all = append(all, impl.Pair{A: s, B: stores[(i*37+11)%len(stores)], Lost: i % 3})
		one, none := onDisk(s), onDisk(s)
		one.Disk[i%6] = (one.Disk[i%6] + 1 + i%9) % 10
		for n := range none.Disk {
			none.Disk[n] = (none.Disk[n] + 1 + (i+n)%9) % 10
		}
		all = append(all, impl.Pair{A: s, B: one, Lost: i / 3 % 3}, impl.Pair{A: none, B: s, Lost: i / 7 % 3})
	}
	return all
}

// fallenPairs is pairs of new stores behind puts that fell, were mended or not, and behind losses.
func fallenPairs() []impl.Pair {
	var all []impl.Pair
	for seed := uint32(1); seed <= 12; seed++ {
		next := steadyNumbers(seed)
		p := impl.PairNew()
		for n := range 60 {
			p = impl.PairPut(p, 1+next(6), next(10), next(14), next(3) == 0)
			if n%11 == 7 {
				p = []func(impl.Pair) impl.Pair{
					impl.PairMend, impl.PairBack,
					func(p impl.Pair) impl.Pair { return impl.PairLose(p, 1) },
					func(p impl.Pair) impl.Pair { return impl.PairLose(p, 2) },
				}[next(4)](p)
			}
			if n%4 == 3 {
				all = append(all, p)
			}
		}
	}
	return all
}

// okPairs is pairs that the document calls ok, of all these sorts.
func okPairs() []impl.Pair {
	return slices.Concat([]impl.Pair{impl.PairNew()}, edgePairs(), wipingPairs(), samePairs(), otherPairs(), fallenPairs())
}

// fewPairs is each twelfth of okPairs, and some at the edges, for tests that try much with each.
func fewPairs() []impl.Pair {
	few := []impl.Pair{impl.PairNew(), {A: eldestAllDirty(), B: allClean()}, {A: allDirty(), B: eldestAllDirty()}}
	for i, p := range okPairs() {
		if i%12 == 5 {
			few = append(few, p)
		}
	}
	return few
}

// noLosts is numbers that tell of none that was lost, nor that none was.
func noLosts() []int {
	return []int{-1, 3, -2, 4, -3, 255, 256, 257, 258, 1 << 32, 1<<32 + 1, 1<<32 + 2, math.MinInt, math.MaxInt}
}

func TestPairsOfAllSorts(t *testing.T) {
	counts := map[string]int{}
	for _, p := range okPairs() {
		if !wantStoreOk(p.A) || !wantStoreOk(p.B) {
			t.Fatalf("%v is not ok", p)
		}
		differ := 0
		for i, val := range wantValues(p.A) {
			if val != wantValues(p.B)[i] {
				differ++
			}
		}
		counts[fmt.Sprint("lost ", p.Lost)]++
		counts[fmt.Sprint("differ in ", differ)]++
		counts[fmt.Sprint("can put ", canPut(p.A), " ", canPut(p.B))]++
		counts[fmt.Sprint("lost ", p.Lost, " and has other values ", differ > 0)]++
	}
	for name, least := range map[string]int{
		"lost 0": 500, "lost 1": 500, "lost 2": 500, "differ in 0": 400, "differ in 1": 200, "differ in 6": 200,
		"can put true true": 1000, "can put true false": 50, "can put false true": 50, "can put false false": 10,
		"lost 1 and has other values true": 200, "lost 2 and has other values true": 200,
	} {
		if counts[name] < least {
			t.Errorf("just %d pairs: %s", counts[name], name)
		}
	}
}

func TestPairPutIsAsTheDocumentSays(t *testing.T) {
	counts := map[int]int{}
	for i, p := range okPairs() {
		addr, val := 1+i%6, i*7%10
		size := len(wantPairSteps(p, addr, val))
		counts[size]++
		for _, cut := range []int{0, 1, size / 2, size - 1, size, size + 1, 60} {
			if cut >= 0 {
				mustPairPut(t, p, addr, val, cut, false)
				mustPairPut(t, p, addr, val, cut, true)
			}
		}
	}
	for _, size := range []int{0, 1, 2, 3, 4, 5, 6, 7, 8, 12} {
		if counts[size] == 0 || size < 9 && counts[size] < 10 {
			t.Errorf("just %d pairs with %d steps", counts[size], size)
		}
	}
}

func TestPairMendLoseAndBackAreAsTheDocumentSays(t *testing.T) {
	for _, p := range okPairs() {
		mustMend(t, p)
		mustLose(t, p, 1)
		mustLose(t, p, 2)
		mustBack(t, p)
	}
}

func TestP87BehindAllStepsEachStoreHasTheValue(t *testing.T) {
	counts := map[string]int{}
	for i, p := range okPairs() {
		addr, val := 1+i%6, i*3%10
		to := impl.PairPut(p, addr, val, 14, i%2 == 0)
		for n, was := range []impl.Store{p.A, p.B} {
			is := []impl.Store{to.A, to.B}[n]
			if p.Lost == n+1 {
				if !sameStore(is, was) {
					t.Fatalf("PairPut(%v, %d, %d): the one that was lost became %v", p, addr, val, is)
				}
				counts["lost"]++
				continue
			}
			want := wantValues(was)
			if canPut(was) {
				want[addr-1] = val
				counts["put"]++
			} else {
				counts["stuck"]++
			}
			mustHave(t, fmt.Sprint("PairPut ", addr, " ", val), is, want)
		}
		if to.Lost != p.Lost {
			t.Fatalf("PairPut(%v, %d, %d): %d was lost", p, addr, val, to.Lost)
		}
	}
	if counts["put"] < 1000 || counts["lost"] < 500 || counts["stuck"] < 100 {
		t.Errorf("%v: too few of one sort", counts)
	}
}

func TestP87EachAddressAndValueThatThereIs(t *testing.T) {
	for _, start := range []impl.Pair{impl.PairNew(), {A: eldestAllDirty(), B: allClean()}, {A: allDirty(), B: eldestAllDirty()}} {
		for lost := 0; lost <= 2; lost++ {
			p := withLost(start, lost)
			for addr := 1; addr <= 6; addr++ {
				for val := 0; val <= 9; val++ {
					want := wantPairAll(p)
					want[addr-1] = val
					mustAll(t, "put", mustPairPut(t, p, addr, val, 12, false), want)
				}
			}
		}
	}
}

func TestP88WhateverFallsItIsAllOrNothing(t *testing.T) {
	counts := map[bool]int{}
	for i, p := range fewPairs() {
		addr, val := 1+i%6, i*7%10
		was, put := wantPairAll(p), wantPairAll(p)
		put[addr-1] = val
		read := p.A
		if p.Lost == 1 {
			read = p.B
		}
		size := len(wantToWrite(read, 1, addr, val))
		pairFalls(p, addr, val, func(cut int, torn bool) {
			want := was
			// The value is there as soon as all steps of the store that is read were done.
			if size > 0 && cut >= size {
				want = put
			}
			counts[size > 0 && cut >= size]++
			mustAll(t, fmt.Sprint("PairPut ", addr, " ", val, " cut at ", cut, ", torn ", torn), mustPairPut(t, p, addr, val, cut, torn), want)
		})
	}
	if counts[true] < 500 || counts[false] < 500 {
		t.Errorf("%d were put, %d were not: too few of one sort", counts[true], counts[false])
	}
}

func TestP88FallingAgainAndAgain(t *testing.T) {
	for seed := uint32(1); seed <= 20; seed++ {
		next := steadyNumbers(seed)
		p := impl.PairNew()
		for range 150 {
			addr, val := 1+next(6), next(10)
			was, put := wantPairAll(p), wantPairAll(p)
			put[addr-1] = val
			to := mustPairPut(t, p, addr, val, next(13), next(2) == 0)
			if all := impl.PairAll(to); !slices.Equal(all, was) && !slices.Equal(all, put) {
				t.Fatalf("PairPut(%v, %d, %d): PairAll is %v", p, addr, val, all)
			}
			p = to
		}
	}
}

// tornNext is the store with the page torn that is to be written next.
func tornNext(s impl.Store) impl.Store {
	s = copyStore(s)
	block, _ := wantOpen(s.Flash)
	s.Flash[block].Pages[4-cleanOf(s.Flash[block])] = tornPage()
	return s
}

func TestEachStepOfAPairTorn(t *testing.T) {
	// A has six steps: it tells 5, 2, 4 and 1, is wiped, and written; B has one.
	a, b := eldestAllDirty(), allDirty()
	steps := wantToWrite(a, 1, 3, 5)
	bPut := copyStore(b)
	bPut.Flash[1].Pages[2] = livePage(dirtyRec(7, 3, 5))
	aPut := wantTo(a, steps, 6, false)
	for _, c := range []struct {
		cut  int
		torn bool
		a, b impl.Store
	}{
		{0, false, a, b}, {0, true, a, b},
		{1, false, wantTo(a, steps, 1, false), b}, {1, true, wantTo(a, steps, 1, false), b},
		{4, false, wantTo(a, steps, 4, false), b}, {4, true, wantTo(a, steps, 4, true), b},
		{5, false, wantTo(a, steps, 5, false), b}, {5, true, wantTo(a, steps, 5, true), b},
		{6, false, aPut, b}, {6, true, aPut, tornNext(b)},
		{7, false, aPut, bPut}, {7, true, aPut, bPut}, {8, true, aPut, bPut}, {math.MaxInt, true, aPut, bPut},
	} {
		p := impl.Pair{A: a, B: b}
		what := fmt.Sprint("cut at ", c.cut, ", torn ", c.torn, ":")
		mustPair(t, what, p, impl.PairPut(p, 3, 5, c.cut, c.torn), impl.Pair{A: c.a, B: c.b})
		// Each one alone, if the other one was lost.
		mustPair(t, what, withLost(p, 2), impl.PairPut(withLost(p, 2), 3, 5, c.cut, c.torn), impl.Pair{A: c.a, B: b, Lost: 2})
		alone := bPut
		if c.cut == 0 && c.torn {
			alone = tornNext(b)
		} else if c.cut == 0 {
			alone = b
		}
		mustPair(t, what, withLost(p, 1), impl.PairPut(withLost(p, 1), 3, 5, c.cut, c.torn), impl.Pair{A: a, B: alone, Lost: 1})
	}
}

func TestPairPutWhereOneStoreHasNoSteps(t *testing.T) {
	good := allDirty()
	put := wantTo(good, wantToWrite(good, 1, 2, 4), 1, false)
	for _, stuck := range []impl.Store{wornOut(), usedUp()} {
		first, second := impl.Pair{A: stuck, B: good}, impl.Pair{A: good, B: stuck}
		for _, c := range []struct {
			cut  int
			torn bool
			is   impl.Store
		}{{0, false, good}, {0, true, tornNext(good)}, {1, false, put}, {1, true, put}, {2, true, put}, {math.MaxInt, true, put}} {
			what := fmt.Sprint("cut at ", c.cut, ", torn ", c.torn, ":")
			// The first step of all is that of the one that has any, whichever that is.
			mustPair(t, what, first, impl.PairPut(first, 2, 4, c.cut, c.torn), impl.Pair{A: stuck, B: c.is})
			mustPair(t, what, second, impl.PairPut(second, 2, 4, c.cut, c.torn), impl.Pair{A: c.is, B: stuck})
			for _, p := range []impl.Pair{withLost(first, 2), withLost(second, 1), {A: stuck, B: usedUp()}, {A: wornOut(), B: stuck}} {
				mustPair(t, what, p, impl.PairPut(p, 2, 4, c.cut, c.torn), p)
			}
		}
	}
}

func TestP89BehindPairMendBothHaveTheFirst(t *testing.T) {
	counts := map[bool]int{}
	for _, p := range okPairs() {
		if p.Lost != 0 {
			continue
		}
		to := mustMend(t, p)
		if !sameStore(to.A, p.A) || to.Lost != 0 {
			t.Fatalf("PairMend(%v) changes more than the second one: %v", p, to)
		}
		mustAll(t, "mended", to, wantPairAll(p))
		counts[haveSame(to)]++
		if !haveSame(to) && canPut(to.B) {
			t.Fatalf("PairMend(%v) leaves what can be put: %v", p, to)
		}
		mustPair(t, "PairMend twice", p, impl.PairMend(to), to)
	}
	if counts[true] < 500 || counts[false] < 20 {
		t.Errorf("%d were mended, %d could not be: too few of one sort", counts[true], counts[false])
	}
}

func TestP89JustWhatDiffersIsPut(t *testing.T) {
	for set := range 64 {
		p := impl.Pair{A: allDirty(), B: onDisk(allDirty())}
		want := copyPair(p)
		seq := 0
		for addr := 1; addr <= 6; addr++ {
			if set>>(addr-1)&1 == 0 {
				continue
			}
			val := p.B.Disk[addr-1]
			p.B.Disk[addr-1] = (val + addr) % 10
			want.B.Disk[addr-1] = p.B.Disk[addr-1]
			want.B.Flash[seq/4].Pages[seq%4] = livePage(dirtyRec(seq+1, addr, val))
			seq++
		}
		mustPair(t, fmt.Sprint("PairMend, set ", set), p, mustMend(t, p), want)
		// The same of PairBack, of either one.
		mustPair(t, fmt.Sprint("PairBack of 2, set ", set), p, mustBack(t, withLost(p, 2)), want)
		turned := impl.Pair{A: p.B, B: p.A, Lost: 1}
		mustPair(t, fmt.Sprint("PairBack of 1, set ", set), turned, mustBack(t, turned), impl.Pair{A: want.B, B: want.A})
	}
}

func TestP89MendingWipesBlocks(t *testing.T) {
	// The second one differs in all; its eldest block, which has 5, 2, 4 and 1, is wiped for the first value, so that of
	// these the slow disk is told what is there, and then 1 is put.
	a := onDisk(eldestAllDirty())
	for n := range a.Disk {
		a.Disk[n] = (a.Disk[n] + 5) % 10
	}
	p := impl.Pair{A: a, B: eldestAllDirty()}
	want := copyPair(p)
	want.B.Disk = []int{0, 2, 9, 3, 1, 9}
	row := func(from int) []impl.Page {
		var pages []impl.Page
		for addr := from; addr < from+4 && addr <= 6; addr++ {
			pages = append(pages, livePage(dirtyRec(116+addr, addr, a.Disk[addr-1])))
		}
		return append(pages, make([]impl.Page, 4-len(pages))...)
	}
	want.B.Flash[2] = impl.Block{Pages: row(1), Worn: 200}
	want.B.Flash[0] = impl.Block{Pages: row(5), Worn: 1}
	mustPair(t, "PairMend", p, mustMend(t, p), want)
}

func TestPairMendOfOneThatCannotBeWritten(t *testing.T) {
	a := impl.Store{Flash: seqBlocks(), Disk: []int{1, 1, 1, 1, 1, 1}}
	for _, stuck := range []impl.Store{wornOut(), usedUp()} {
		p := impl.Pair{A: a, B: stuck}
		mustPair(t, "PairMend", p, impl.PairMend(p), p)
		mustPair(t, "PairBack of 2", p, impl.PairBack(withLost(p, 2)), p)
		turned := impl.Pair{A: stuck, B: a}
		mustPair(t, "PairBack of 1", turned, impl.PairBack(withLost(turned, 1)), turned)
		mustHave(t, "mended by one that is stuck", impl.PairMend(turned).B, wantValues(stuck))
	}
	// There is one number more: of the six that differ the first one is put.
	p := impl.Pair{A: a, B: oneLeft()}
	want := copyPair(p)
	want.B.Flash[1].Pages[2] = livePage(dirtyRec(600, 1, 1))
	mustPair(t, "PairMend", p, impl.PairMend(p), want)
	mustPair(t, "PairMend twice", p, impl.PairMend(impl.PairMend(p)), want)
	mustPair(t, "PairBack of 2", p, impl.PairBack(withLost(p, 2)), want)
}

func TestP90OfTwoThatHaveTheSameEitherMayBeLost(t *testing.T) {
	for _, p := range append(samePairs(), impl.PairNew()) {
		all := wantPairAll(p)
		for which := 1; which <= 2; which++ {
			lost := mustLose(t, p, which)
			mustAll(t, fmt.Sprint("PairLose ", which), lost, all)
			for second := 1; second <= 2; second++ {
				mustPair(t, fmt.Sprint("PairLose ", second, " as a second one"), lost, impl.PairLose(lost, second), lost)
			}
		}
	}
}

func TestP90ASecondOneIsNotLost(t *testing.T) {
	counts := map[int]int{}
	for _, p := range okPairs() {
		for which := 1; which <= 2; which++ {
			lost := mustLose(t, p, which)
			wanted := which
			if p.Lost > 0 {
				wanted = p.Lost
				mustPair(t, fmt.Sprint("PairLose ", which), p, lost, p)
			}
			if lost.Lost != wanted {
				t.Fatalf("PairLose(%v, %d) is %v", p, which, lost)
			}
			counts[p.Lost]++
			again := mustLose(t, mustLose(t, lost, 3-which), which)
			mustPair(t, "PairLose again and again", p, again, lost)
		}
	}
	if counts[0] < 1000 || counts[1] < 1000 || counts[2] < 1000 {
		t.Errorf("so many had lost none, 1 and 2: %v", counts)
	}
}

func TestP91BehindPairBackNoneWasLost(t *testing.T) {
	counts := map[bool]int{}
	for _, p := range okPairs() {
		all := wantPairAll(p)
		to := mustBack(t, p)
		if to.Lost != 0 {
			t.Fatalf("PairBack(%v) is %v", p, to)
		}
		mustPair(t, "PairBack twice", p, impl.PairBack(to), to)
		if p.Lost == 0 {
			mustPair(t, "PairBack of none that was lost", p, to, p)
			continue
		}
		one, other, wasOther := to.A, to.B, p.B
		if p.Lost == 2 {
			one, other, wasOther = to.B, to.A, p.A
		}
		if !sameStore(other, wasOther) {
			t.Fatalf("PairBack(%v) changes the one that was not lost: %v", p, to)
		}
		counts[haveSame(to)]++
		if haveSame(to) {
			mustHave(t, "the one that was lost", one, all)
			mustAll(t, "PairBack", to, all)
		} else if canPut(one) {
			t.Fatalf("PairBack(%v) leaves what can be put: %v", p, to)
		}
	}
	if counts[true] < 1000 || counts[false] < 50 {
		t.Errorf("%d are back, %d could not be: too few of one sort", counts[true], counts[false])
	}
}

func TestP91OneThatWasLostIsBack(t *testing.T) {
	for _, p := range okPairs() {
		for which := 1; which <= 2; which++ {
			lost := impl.PairLose(withLost(p, 0), which)
			all := wantPairAll(lost)
			to := mustBack(t, lost)
			// In a new store all can be put.
			mustHave(t, "the first one", to.A, all)
			mustHave(t, "the second one", to.B, all)
			mustAll(t, "PairBack", to, all)
		}
	}
}

func TestP92WhatIsPutOutlastsTheLossOfBoth(t *testing.T) {
	counts := map[bool]int{}
	for i, p := range okPairs() {
		addr, val := 1+i%6, i*7%10
		mended := mustMend(t, p)
		can := allCanPut(mended) && (p.Lost > 0 || haveSame(mended))
		counts[can]++
		if !can {
			continue
		}
		want := wantPairAll(p)
		want[addr-1] = val
		put := mustPairPut(t, mended, addr, val, 12, false)
		for which := 1; which <= 2; which++ {
			lost := mustLose(t, put, which)
			mustAll(t, fmt.Sprint(which, " was lost"), lost, want)
			back := mustBack(t, lost)
			if p.Lost > 0 && !haveSame(back) {
				// The one that was lost ahead of all could not be written, so that it is not there for the other one.
				continue
			}
			mustAll(t, fmt.Sprint(which, " is back"), back, want)
			mustAll(t, fmt.Sprint(which, " is back, and the other one was lost"), mustLose(t, back, 3-which), want)
		}
	}
	if counts[true] < 1000 || counts[false] < 50 {
		t.Errorf("%d could be put, %d could not: too few of one sort", counts[true], counts[false])
	}
}

func TestP92OneLossBehindAnother(t *testing.T) {
	next := steadyNumbers(5)
	p, vals := impl.PairNew(), make([]int, 6)
	for n := range 1500 {
		addr, val := 1+next(6), next(10)
		vals[addr-1] = val
		p = mustPairPut(t, mustMend(t, p), addr, val, 12, false)
		p = mustLose(t, p, 1+next(2))
		mustAll(t, fmt.Sprint("lost, put ", n), p, vals)
		p = mustBack(t, p)
		mustAll(t, fmt.Sprint("back, put ", n), p, vals)
	}
}

func TestP93WhatFellIsMended(t *testing.T) {
	counts := map[bool]int{}
	for i, p := range fewPairs() {
		addr, val := 1+i%6, i*3%10
		pairFalls(p, addr, val, func(cut int, torn bool) {
			fell := mustPairPut(t, p, addr, val, cut, torn)
			all := impl.PairAll(fell)
			mended := mustMend(t, fell)
			mustAll(t, "mended", mended, all)
			whole := fell.Lost > 0 || haveSame(mended)
			counts[whole]++
			for which := 1; which <= 2; which++ {
				// With the first one lost the second one is read: that must have been mended, or else be the same anyway.
				if whole || which == 2 {
					mustAll(t, fmt.Sprint("mended, and ", which, " lost"), mustLose(t, mended, which), all)
				}
			}
		})
	}
	if counts[true] < 1000 {
		t.Errorf("just %d were mended", counts[true])
	}
}

func TestP93FallingAtEachStepOfBoth(t *testing.T) {
	// Both have six steps: whatever falls of these twelve, and whichever is lost then, no value is.
	a, b := eldestAllDirty(), eldestAllDirty()
	a.Flash[2].Worn, b.Flash[2].Worn = 7, 7
	for addr := 1; addr <= 6; addr++ {
		p := impl.Pair{A: a, B: b}
		was, put := wantValues(a), wantValues(a)
		put[addr-1] = 7
		for cut := 0; cut <= 13; cut++ {
			want := was
			if cut >= 6 {
				want = put
			}
			for _, torn := range []bool{false, true} {
				fell := mustPairPut(t, p, addr, 7, cut, torn)
				mended := mustMend(t, fell)
				for _, to := range []impl.Pair{fell, mended, mustLose(t, mended, 1), mustLose(t, mended, 2), mustBack(t, mustLose(t, mended, 1)), mustLose(t, fell, 2)} {
					mustAll(t, fmt.Sprint(addr, " cut at ", cut, ", torn ", torn), to, want)
				}
			}
		}
	}
}

func TestP94PairOkOfOkStores(t *testing.T) {
	for _, p := range okPairs() {
		for lost := 0; lost <= 2; lost++ {
			if !impl.PairOk(withLost(p, lost)) {
				t.Fatalf("%v is not ok with %d lost", p, lost)
			}
		}
		for _, lost := range noLosts() {
			if impl.PairOk(withLost(p, lost)) {
				t.Fatalf("%v is ok with %d lost", p, lost)
			}
		}
	}
}

func TestP94PairNewIsOk(t *testing.T) {
	p := impl.PairNew()
	if !samePair(p, impl.Pair{A: impl.StoreNew(), B: impl.StoreNew()}) || !impl.PairOk(p) || !haveSame(p) {
		t.Error(p)
	}
	mustAll(t, "new", p, []int{0, 0, 0, 0, 0, 0})
}

func TestP94OfStoresOfAllSorts(t *testing.T) {
	counts := map[string]int{}
	stores := anyStores()
	for i, a := range stores {
		b := stores[(i*41+7)%len(stores)]
		aIs, bIs := wantStoreOk(a), wantStoreOk(b)
		p := impl.Pair{A: a, B: b, Lost: i % 3}
		if ok := impl.PairOk(p); ok != (aIs && bIs) || ok != (impl.StoreOk(a) && impl.StoreOk(b)) {
			t.Fatalf("PairOk(%v) is %v", p, ok)
		}
		counts[fmt.Sprint(aIs, " ", bIs)]++
		if !aIs || !bIs {
			mustPairNothing(t, "of two stores", p)
		}
	}
	for _, sort := range []string{"true true", "true false", "false true", "false false"} {
		if counts[sort] < 300 {
			t.Errorf("just %d are ok: %s", counts[sort], sort)
		}
	}
}

func TestP95PairAllIsThatOfTheFirstOrTheSecond(t *testing.T) {
	differ := 0
	for _, p := range okPairs() {
		for lost := 0; lost <= 2; lost++ {
			want := impl.StoreAll(p.A)
			if lost == 1 {
				want = impl.StoreAll(p.B)
			}
			if all := impl.PairAll(withLost(p, lost)); !slices.Equal(all, want) || len(all) != 6 {
				t.Fatalf("PairAll(%v) with %d lost is %v, not %v", p, lost, all, want)
			}
		}
		if !haveSame(p) {
			differ++
		}
	}
	if differ < 1000 {
		t.Errorf("just %d pairs differ", differ)
	}
}

func TestP96AheadOfTheLastStepTheSecondOneStays(t *testing.T) {
	tried := 0
	for i, p := range okPairs() {
		addr, val := 1+i%6, i%10
		if p.Lost == 1 {
			continue
		}
		size := len(wantToWrite(p.A, 1, addr, val))
		for cut := range size {
			for _, torn := range []bool{false, true} {
				tried++
				if to := impl.PairPut(p, addr, val, cut, torn); !sameStore(to.B, p.B) {
					t.Fatalf("PairPut(%v, %d, %d, %d, %v): the second one is %v", p, addr, val, cut, torn, to.B)
				}
			}
		}
		// Behind the last one the next one is that of the second store, and no sooner.
		if to := impl.PairPut(p, addr, val, size, true); p.Lost == 0 && canPut(p.B) && !sameStore(to.B, wantTo(p.B, wantToWrite(p.B, 1, addr, val), 0, true)) {
			t.Fatalf("PairPut(%v, %d, %d, %d, true): the second one is %v", p, addr, val, size, to.B)
		}
	}
	if tried < 3000 {
		t.Errorf("just %d were tried", tried)
	}
}

func TestP97TwiceLeavesWhatItLeavesOnce(t *testing.T) {
	for i, p := range okPairs() {
		addr, val := 1+i%6, i*7%10
		once := mustPairPut(t, p, addr, val, 12, false)
		twice := mustPairPut(t, once, addr, val, 12, false)
		mustHave(t, "the first one", twice.A, wantValues(once.A))
		mustHave(t, "the second one", twice.B, wantValues(once.B))
		if twice.Lost != p.Lost {
			t.Fatalf("%v: %d was lost", p, twice.Lost)
		}
	}
}

func TestP98OfNoStepsNothingChanges(t *testing.T) {
	for i, p := range okPairs() {
		mustPair(t, "PairPut of none", p, impl.PairPut(p, 1+i%6, i%10, 0, false), p)
		addr, val := noAddrs()[i%9], noVals()[i%7]
		for _, cut := range []int{0, 1, 2, 12, math.MaxInt} {
			for _, torn := range []bool{false, true} {
				mustPair(t, fmt.Sprint("PairPut of no address ", addr), p, impl.PairPut(p, addr, i%10, cut, torn), p)
				mustPair(t, fmt.Sprint("PairPut of no value ", val), p, impl.PairPut(p, 1+i%6, val, cut, torn), p)
			}
		}
	}
}

func TestP98TheEdgesOfAddressesAndValues(t *testing.T) {
	for lost := 0; lost <= 2; lost++ {
		p := impl.Pair{A: allDirty(), B: eldestAllDirty(), Lost: lost}
		for _, addr := range append(noAddrs(), 1, 6) {
			for _, val := range append(noVals(), 0, 9) {
				isOne := (addr == 1 || addr == 6) && (val == 0 || val == 9)
				for _, cut := range []int{0, 1, 12} {
					for _, torn := range []bool{false, true} {
						to := mustPairPut(t, p, addr, val, cut, torn)
						if !isOne && !samePair(to, p) {
							t.Fatalf("PairPut(%v, %d, %d, %d, %v) is %v", p, addr, val, cut, torn, to)
						}
						if isOne && cut == 12 && impl.PairAll(to)[addr-1] != val {
							t.Fatalf("PairPut(%v, %d, %d, %d, %v) is %v", p, addr, val, cut, torn, to)
						}
					}
				}
			}
		}
	}
}

func TestP99PairMendOfTheSameOrOfOneThatWasLost(t *testing.T) {
	counts := map[string]int{}
	for _, p := range okPairs() {
		if p.Lost == 0 && !haveSame(p) {
			continue
		}
		counts[fmt.Sprint("lost ", p.Lost, ", the same ", haveSame(p))]++
		mustPair(t, "PairMend", p, impl.PairMend(p), p)
	}
	for _, sort := range []string{"lost 0, the same true", "lost 1, the same true", "lost 1, the same false", "lost 2, the same true", "lost 2, the same false"} {
		if counts[sort] < 150 {
			t.Errorf("just %d pairs: %s", counts[sort], sort)
		}
	}
}

func TestP100BehindPairLoseThatOneIsNew(t *testing.T) {
	for i, given := range okPairs() {
		p := withLost(given, 0)
		addr, val := 1+i%6, i*3%10
		for which := 1; which <= 2; which++ {
			lost := impl.PairLose(p, which)
			one, other, wasOther := lost.A, lost.B, p.B
			if which == 2 {
				one, other, wasOther = lost.B, lost.A, p.A
			}
			if !sameStore(one, impl.StoreNew()) || !sameStore(other, wasOther) || lost.Lost != which {
				t.Fatalf("PairLose(%v, %d) is %v", p, which, lost)
			}
			put := impl.PairPut(lost, addr, val, 12, false)
			steps := wantToWrite(wasOther, 1, addr, val)
			if which == 2 {
				put.A, put.B = put.B, put.A
			}
			if !sameStore(put.A, one) || !sameStore(put.B, wantTo(wasOther, steps, len(steps), false)) || put.Lost != which {
				t.Fatalf("PairPut(%v, %d, %d) is %v", lost, addr, val, put)
			}
		}
	}
}

func TestPairsThatAreTold(t *testing.T) {
	want := impl.Pair{A: impl.Store{Flash: seqBlocks(), Disk: make([]int, 6)}, B: impl.Store{Flash: seqBlocks(), Disk: make([]int, 6)}}
	p := impl.PairPut(impl.PairNew(), 4, 6, 2, false)
	want.A.Flash[0].Pages[0], want.B.Flash[0].Pages[0] = livePage(dirtyRec(1, 4, 6)), livePage(dirtyRec(1, 4, 6))
	mustPair(t, "4 6", impl.PairNew(), p, want)
	p = impl.PairPut(p, 4, 7, 1, true)
	want.A.Flash[0].Pages[1], want.B.Flash[0].Pages[1] = livePage(dirtyRec(2, 4, 7)), tornPage()
	mustPair(t, "4 7, torn in the second one", impl.PairNew(), p, want)
	p = impl.PairPut(p, 2, 9, 0, true)
	want.A.Flash[0].Pages[2] = tornPage()
	mustPair(t, "2 9, torn in the first one", impl.PairNew(), p, want)
	p = impl.PairMend(p)
	want.B.Flash[0].Pages[2] = livePage(dirtyRec(2, 4, 7))
	mustPair(t, "mended", impl.PairNew(), p, want)
	p = impl.PairLose(p, 1)
	want.A, want.Lost = impl.Store{Flash: seqBlocks(), Disk: make([]int, 6)}, 1
	mustPair(t, "the first one lost", impl.PairNew(), p, want)
	p = impl.PairPut(p, 1, 3, 1, false)
	want.B.Flash[0].Pages[3] = livePage(dirtyRec(3, 1, 3))
	mustPair(t, "1 3, in the second one alone", impl.PairNew(), p, want)
	p = impl.PairBack(p)
	want.A.Flash[0].Pages[0], want.A.Flash[0].Pages[1], want.Lost = livePage(dirtyRec(1, 1, 3)), livePage(dirtyRec(2, 4, 7)), 0
	mustPair(t, "back", impl.PairNew(), p, want)
	p = impl.PairLose(p, 2)
	want.B, want.Lost = impl.Store{Flash: seqBlocks(), Disk: make([]int, 6)}, 2
	mustPair(t, "the second one lost", impl.PairNew(), p, want)
	mustAll(t, "the second one lost", p, []int{3, 0, 0, 7, 0, 0})
}

func TestOneThatIsSaidToBeLostWhicheverStoresThereAre(t *testing.T) {
	a, b := allDirty(), onDisk(eldestAllDirty())
	for lost, want := range map[int]impl.Pair{
		1: {A: wantSame(a, b), B: b},
		2: {A: a, B: wantSame(b, a)},
	} {
		p := impl.Pair{A: a, B: b, Lost: lost}
		mustPair(t, "PairMend", p, impl.PairMend(p), p)
		mustPair(t, "PairLose 1", p, impl.PairLose(p, 1), p)
		mustPair(t, "PairLose 2", p, impl.PairLose(p, 2), p)
		// What it has, though it was lost, stays where it is the same: it is not made new once more.
		mustPair(t, "PairBack", p, impl.PairBack(p), want)
		mustAll(t, "PairBack", impl.PairBack(p), wantPairAll(p))
	}
}

// mustPairNo says that what was answered is nothing.
func mustPairNo(t *testing.T, what string, was impl.Pair, got impl.Pair) {
	t.Helper()
	for _, s := range []impl.Store{got.A, got.B} {
		if len(s.Flash) != 0 || len(s.Disk) != 0 || got.Lost != 0 {
			t.Fatalf("%s of %v is %v", what, was, got)
		}
	}
}

// mustPairNothing says that a pair that is not ok is answered as the document says.
func mustPairNothing(t *testing.T, name string, p impl.Pair) {
	t.Helper()
	if all := impl.PairAll(p); impl.PairOk(p) || len(all) != 0 {
		t.Fatalf("%s: %v: ok %v, PairAll %v", name, p, impl.PairOk(p), all)
	}
	mustPairNo(t, name+": PairMend", p, impl.PairMend(p))
	mustPairNo(t, name+": PairBack", p, impl.PairBack(p))
	for which := 0; which <= 3; which++ {
		mustPairNo(t, fmt.Sprint(name, ": PairLose ", which), p, impl.PairLose(p, which))
	}
	for cut := -1; cut <= 2; cut++ {
		mustPairNo(t, fmt.Sprint(name, ": PairPut cut at ", cut), p, impl.PairPut(p, 1+(cut+1)%6, 5, cut, cut%2 == 0))
		mustPairNo(t, fmt.Sprint(name, ": PairPut of no address cut at ", cut), p, impl.PairPut(p, 7, 5, cut, cut%2 == 0))
	}
}

// mustNoPairWith says that no pair with such a store is ok, whichever of both it is, and whichever was lost.
func mustNoPairWith(t *testing.T, name string, wrong impl.Store, good impl.Store) {
	t.Helper()
	for lost := 0; lost <= 2; lost++ {
		mustPairNothing(t, fmt.Sprint(name, ", in A, lost ", lost), impl.Pair{A: wrong, B: good, Lost: lost})
		mustPairNothing(t, fmt.Sprint(name, ", in B, lost ", lost), impl.Pair{A: good, B: wrong, Lost: lost})
	}
	mustPairNothing(t, name+", in both", impl.Pair{A: wrong, B: wrong})
}

func TestPairsWithAStoreThatIsNotOk(t *testing.T) {
	good := impl.StoreNew()
	mustNoPairWith(t, "nothing", impl.Store{}, good)
	mustNoPairWith(t, "empty lists", impl.Store{Flash: []impl.Block{}, Disk: []int{}}, good)
	mustNoPairWith(t, "a clean record, and another value", withDisk(allClean(), 6, 9), good)
	mustNoPairWith(t, "two were begun", impl.Store{Flash: seqBlocks([]int{1, 2, 3}, []int{4}), Disk: make([]int, 6)}, good)
	for _, s := range []impl.Store{impl.StoreNew(), allDirty(), allClean()} {
		for i, w := range wrongFlashes(s.Flash) {
			if i%3 == 0 || i < 40 {
				mustNoPairWith(t, w.name, impl.Store{Flash: w.f, Disk: s.Disk}, s)
			}
		}
		for addr := 1; addr <= 6; addr++ {
			for _, val := range noVals() {
				mustNoPairWith(t, fmt.Sprint("the slow disk has ", val), withDisk(s, addr, val), s)
			}
		}
		mustNoPairWith(t, "a number less", impl.Store{Flash: s.Flash, Disk: s.Disk[:5]}, s)
		mustNoPairWith(t, "a number more", impl.Store{Flash: s.Flash, Disk: append(slices.Clone(s.Disk), 0)}, s)
		mustNoPairWith(t, "no slow disk", impl.Store{Flash: s.Flash}, s)
	}
}

func TestPairsOfWhichNoneThatThereIsWasLost(t *testing.T) {
	mustPairNothing(t, "nothing", impl.Pair{})
	for _, lost := range noLosts() {
		for _, p := range fewPairs() {
			mustPairNothing(t, fmt.Sprint("lost ", lost), withLost(p, lost))
		}
	}
}

func TestPairLoseOfNoneThatThereIs(t *testing.T) {
	for _, p := range fewPairs() {
		for lost := 0; lost <= 2; lost++ {
			for _, which := range append(noLosts(), 0) {
				mustPairNo(t, fmt.Sprint("PairLose ", which), p, impl.PairLose(withLost(p, lost), which))
			}
		}
	}
}

func TestPairPutCutBelowNone(t *testing.T) {
	for i, p := range fewPairs() {
		for lost := 0; lost <= 2; lost++ {
			for _, cut := range []int{-1, -2, -12, -1 << 32, math.MinInt32, math.MinInt} {
				for _, torn := range []bool{false, true} {
					what := fmt.Sprint("PairPut cut at ", cut, ", torn ", torn, ",")
					mustPairNo(t, what, p, impl.PairPut(withLost(p, lost), 1+i%6, i%10, cut, torn))
					mustPairNo(t, what, p, impl.PairPut(withLost(p, lost), noAddrs()[i%9], i%10, cut, torn))
				}
			}
		}
	}
}

// mustSharePairs says that no two stores of pairs share any place, spare room included.
func mustSharePairs(t *testing.T, what string, pairs ...impl.Pair) {
	t.Helper()
	var flashes [][]impl.Block
	var disks [][]int
	for _, p := range pairs {
		flashes = append(flashes, p.A.Flash, p.B.Flash)
		disks = append(disks, p.A.Disk, p.B.Disk)
	}
	mustShareNothing(t, what, flashes...)
	mustShareNoNumber(t, what, disks...)
}

// pairCalls is what may be done with a pair, each with its name.
func pairCalls(addr int, val int) map[string]func(p impl.Pair) impl.Pair {
	calls := map[string]func(p impl.Pair) impl.Pair{
		"PairMend":   impl.PairMend,
		"PairBack":   impl.PairBack,
		"PairLose 1": func(p impl.Pair) impl.Pair { return impl.PairLose(p, 1) },
		"PairLose 2": func(p impl.Pair) impl.Pair { return impl.PairLose(p, 2) },
		"PairLose 3": func(p impl.Pair) impl.Pair { return impl.PairLose(p, 3) },
		"no address": func(p impl.Pair) impl.Pair { return impl.PairPut(p, 0, val, 12, true) },
		"no value":   func(p impl.Pair) impl.Pair { return impl.PairPut(p, addr, 10, 12, true) },
	}
	for _, cut := range []int{-1, 0, 1, 2, 12} {
		for _, torn := range []bool{false, true} {
			name := fmt.Sprint("PairPut cut at ", cut, ", torn ", torn)
			calls[name] = func(p impl.Pair) impl.Pair { return impl.PairPut(p, addr, val, cut, torn) }
		}
	}
	return calls
}

func TestPairsStayAndAnswersAreNewMemory(t *testing.T) {
	for i, p := range append(fewPairs(), edgePairs()[:60]...) {
		for name, call := range pairCalls(1+i%6, i%10) {
			given := impl.Pair{A: roomyStore(p.A), B: roomyStore(p.B), Lost: p.Lost}
			was := impl.Pair{A: wholeStore(given.A), B: wholeStore(given.B), Lost: p.Lost}
			to, again := call(given), call(given)
			mustSharePairs(t, name, given, to, again)
			if want := call(p); !samePair(to, want) || !samePair(again, want) {
				t.Fatalf("spare room changes %s of %v: %v, not %v", name, p, to, want)
			}
			all, more := impl.PairAll(given), impl.PairAll(given)
			mustShareNoNumber(t, "PairAll", given.A.Disk, given.B.Disk, all, more)
			now := impl.Pair{A: wholeStore(given.A), B: wholeStore(given.B), Lost: given.Lost}
			if !samePair(now, was) || !impl.PairOk(given) {
				t.Fatalf("%s: %v became %v", name, was, now)
			}
		}
	}
}

func TestPairsWhoseStoresAreOneMemory(t *testing.T) {
	// Both stores may be the very same lists that are handed in, and their blocks one list of pages; no answer's may.
	pages := make([]impl.Page, 4)
	bare := impl.Store{Flash: []impl.Block{{Pages: pages}, {Pages: pages}, {Pages: pages}, {Pages: pages}}, Disk: make([]int, 6)}
	for i, s := range append(fewStores(), bare, impl.StoreNew(), eldestAllDirty()) {
		for lost := 0; lost <= 2; lost++ {
			p := impl.Pair{A: s, B: s, Lost: lost}
			was := copyPair(p)
			for name, call := range pairCalls(1+i%6, i%10) {
				to := call(p)
				mustSharePairs(t, name, to, impl.Pair{A: copyStore(s)})
				mustShareNothing(t, name, to.A.Flash, to.B.Flash, []impl.Block{s.Flash[0]})
				mustShareNoNumber(t, name, to.A.Disk, to.B.Disk, s.Disk)
				if want := call(was); !samePair(to, want) || !samePair(p, was) {
					t.Fatalf("%s of %v is %v, not %v; it became %v", name, was, to, want, p)
				}
			}
		}
	}
}

func TestPairNewIsNewMemory(t *testing.T) {
	a, b := impl.PairNew(), impl.PairNew()
	mustSharePairs(t, "PairNew", a, b)
	a.A.Disk[0], a.A.Flash[0].Worn, a.B.Flash[1].Pages[0], a.Lost = 9, 9, tornPage(), 2
	if !samePair(b, impl.PairNew()) || !samePair(impl.PairNew(), impl.Pair{A: impl.StoreNew(), B: impl.StoreNew()}) {
		t.Errorf("%v, and a new one %v, were changed with another one", b, impl.PairNew())
	}
}

func TestNoPairHangsOnAnotherOne(t *testing.T) {
	start := impl.Pair{A: eldestAllDirty(), B: allDirty()}
	want := map[string]impl.Pair{}
	for name, call := range pairCalls(3, 5) {
		want[name] = call(start)
	}
	for i, p := range fewPairs() {
		for name, call := range pairCalls(1+i%6, i%10) {
			other := call(p)
			if len(other.A.Disk) > 0 {
				// What is done with an answer shows in no later one.
				other.A.Disk[0], other.B.Disk[5], other.A.Flash[0].Pages[0] = 9, 8, tornPage()
			}
			if to := pairCalls(3, 5)[name](start); !samePair(to, want[name]) {
				t.Fatalf("%s is %v, not %v", name, to, want[name])
			}
		}
	}
}

func TestPairsAtOnce(t *testing.T) {
	pairs := fewPairs()
	answers := make(chan string, len(pairs))
	for i, p := range pairs {
		go func() {
			fault := ""
			put := impl.PairPut(p, 1+i%6, i%10, i%9, i%2 == 0)
			if !samePair(put, wantPairPut(p, 1+i%6, i%10, i%9, i%2 == 0)) || !samePair(impl.PairMend(p), wantMend(p)) || !samePair(impl.PairBack(p), wantBack(p)) {
				fault = fmt.Sprintf("%v: %v, %v, %v", p, put, impl.PairMend(p), impl.PairBack(p))
			}
			answers <- fault
		}()
	}
	for range pairs {
		if fault := <-answers; fault != "" {
			t.Error(fault)
		}
	}
}

func TestLongRunsOfPairsLoseNothing(t *testing.T) {
	for seed := uint32(1); seed <= 6; seed++ {
		next := steadyNumbers(seed)
		p, vals := impl.PairNew(), make([]int, 6)
		losses := 0
		for n := range 1500 {
			addr, val, cut := 1+next(6), next(10), next(16)
			read := p.A
			if p.Lost == 1 {
				read = p.B
			}
			if size := len(wantToWrite(read, 1, addr, val)); size > 0 && cut >= size {
				vals[addr-1] = val
			}
			p = mustMend(t, mustPairPut(t, p, addr, val, cut, next(2) == 0))
			mustAll(t, fmt.Sprint("put ", n), p, vals)
			// One that can be written no more is lost, too, and back anew: so one can put for ever.
			if which := 1 + next(2); p.Lost == 0 && (next(20) == 0 || !canPut(p.A) || !canPut(p.B)) {
				if !canPut(p.A) {
					which = 1
				} else if !canPut(p.B) {
					which = 2
				}
				p = mustLose(t, p, which)
				losses++
			} else if p.Lost > 0 && next(4) == 0 {
				p = mustBack(t, p)
				if !haveSame(p) {
					t.Fatalf("back, but not the same: %v", p)
				}
			}
			mustAll(t, fmt.Sprint("lost or back, ", n), p, vals)
		}
		if losses < 30 {
			t.Errorf("seed %d: just %d were lost", seed, losses)
		}
	}
}
