package tests

import (
	"fmt"
	"math"
	"slices"
	"testing"

	"loop.example/buttery/impl"
)

// noVals is numbers that no value has: one less than the first, one more than the last, and far ones.
func noVals() []int {
	return []int{-1, 10, -9, 256, 1 << 32, math.MinInt, math.MaxInt}
}

// diskTold, blockWiped and recWritten are steps of each kind.
func diskTold(addr int, val int) impl.Step {
	return impl.Step{Kind: 1, Addr: addr, Val: val}
}

func blockWiped(block int) impl.Step {
	return impl.Step{Kind: 2, Block: block}
}

func recWritten(block int, r impl.Rec) impl.Step {
	return impl.Step{Kind: 3, Block: block, Rec: r}
}

// tornPage and livePage are pages, for blocks that are told page by page.
func tornPage() impl.Page {
	return impl.Page{State: 2}
}

func livePage(r impl.Rec) impl.Page {
	return impl.Page{State: 1, Rec: r}
}

// fullStore is an ok store without a clean page, whose eldest block has pages that live, that do not, and that are torn.
func fullStore(next func(int) int) impl.Store {
	order := [][]int{{0, 1, 2, 3}, {3, 2, 1, 0}, {1, 3, 0, 2}, {2, 0, 3, 1}, {3, 0, 1, 2}, {1, 2, 3, 0}}[next(6)]
	tornOneIn, addrs, shift := 2+next(7), 1+next(6), next(6)
	seq := []int{0, next(300), 560}[next(3)]
	f := seqBlocks()
	for n, b := range order {
		f[b].Worn = []int{0, 3, 199, 200}[next(4)]
		if n > 0 {
			f[b].Worn = next(201)
		}
		for i := range f[b].Pages {
			seq += 1 + next(2)
			r := impl.Rec{Kind: 1 + next(2), Seq: seq, Addr: 1 + (next(addrs)+shift)%6, Val: next(10)}
			// On the eldest block any address may be, so that of some the last record is there.
			if n == 0 {
				r.Addr = 1 + next(6)
			}
			f[b].Pages[i] = livePage(r)
			if next(tornOneIn) == 0 {
				f[b].Pages[i] = tornPage()
			}
		}
	}
	return impl.Store{Flash: f, Disk: someDisk(f, next)}
}

// lastNumbers is stores without a clean page, and with one, whose next number is SeqMax, and one more.
func lastNumbers() []impl.Store {
	var all []impl.Store
	for lift := 583; lift <= 584; lift++ {
		full := [][]int{{1, 2, 3, 4}, {5, 6, 7, 8}, {9, 10, 11, 12}, {13, 14, 15, 16}}
		begun := [][]int{{1, 2, 3, 4}, {16}}
		for _, rows := range [][][]int{full, begun} {
			for _, row := range rows {
				for i := range row {
					row[i] += lift
				}
			}
			f := seqBlocks(rows...)
			all = append(all, impl.Store{Flash: f, Disk: someDisk(f, steadyNumbers(5))})
		}
	}
	return all
}

// fullStores is stores without a clean page, of all sorts.
func fullStores() []impl.Store {
	next := steadyNumbers(19)
	var all []impl.Store
	for i := 0; i < 500; i++ {
		all = append(all, fullStore(next))
	}
	return all
}

// stepStores is ok stores of all sorts, with clean pages and without.
func stepStores() []impl.Store {
	all := append(lastNumbers(), fullStores()...)
	for i, s := range okStores() {
		if i < 12 || i%6 == 0 {
			all = append(all, s)
		}
	}
	return all
}

// fewStores is each tenth of stepStores, for tests that try much with each.
func fewStores() []impl.Store {
	var few []impl.Store
	for i, s := range stepStores() {
		if i < 4 || i%10 == 0 {
			few = append(few, s)
		}
	}
	return few
}

// sameStore holds stores against each other.
func sameStore(a impl.Store, b impl.Store) bool {
	return sameFlash(a.Flash, b.Flash) && slices.Equal(a.Disk, b.Disk)
}

// wantToWrite is by which steps the document writes a record of an ok store.
func wantToWrite(s impl.Store, kind int, addr int, val int) []impl.Step {
	r := impl.Rec{Kind: kind, Seq: greatestSeq(allSeqs(s.Flash)) + 1, Addr: addr, Val: val}
	if r.Seq > 600 || addr < 1 || addr > 6 || val < 0 || val > 9 {
		return nil
	}
	if open, ok := wantOpen(s.Flash); ok {
		return []impl.Step{recWritten(open, r)}
	}
	old := wantOld(s.Flash)
	if s.Flash[old].Worn == 200 {
		return nil
	}
	var steps []impl.Step
	for _, p := range s.Flash[old].Pages {
		last, ok := wantLast(s.Flash, p.Rec.Addr)
		if ok && p.State == 1 && p.Rec == last && last.Kind == 1 {
			steps = append(steps, diskTold(last.Addr, last.Val))
		}
	}
	return append(steps, blockWiped(old), recWritten(old, r))
}

// wantFlush is what the document asks of StepsFlush of an ok store.
func wantFlush(s impl.Store, addr int) []impl.Step {
	last, ok := wantLast(s.Flash, addr)
	write := wantToWrite(s, 2, addr, last.Val)
	if !ok || last.Kind != 1 || len(write) == 0 {
		return nil
	}
	return append([]impl.Step{diskTold(addr, last.Val)}, write...)
}

// wantFill is what the document asks of StepsFill of an ok store, and an address that there is.
func wantFill(s impl.Store, addr int) []impl.Step {
	if _, ok := wantLast(s.Flash, addr); ok {
		return nil
	}
	return wantToWrite(s, 2, addr, s.Disk[addr-1])
}

// wantStep is the store behind one step, done or torn, as the table of kinds says.
func wantStep(s impl.Store, step impl.Step, torn bool) impl.Store {
	s = copyStore(s)
	switch step.Kind {
	case 1:
		if !torn {
			s.Disk[step.Addr-1] = step.Val
		}
	case 2:
		s.Flash, _ = wantWipe(s.Flash, step.Block, torn)
	case 3:
		s.Flash, _ = wantWrite(s.Flash, step.Block, step.Rec, torn)
	}
	return s
}

// wantTo is what the document asks of StepsTo of an ok store, steps that are such, and a cut that is not below 0.
func wantTo(s impl.Store, steps []impl.Step, cut int, torn bool) impl.Store {
	s = copyStore(s)
	for i, step := range steps {
		if i < cut {
			s = wantStep(s, step, false)
		} else if i == cut && torn {
			s = wantStep(s, step, true)
		}
	}
	return s
}

// mustSteps holds steps against those that are wanted.
func mustSteps(t *testing.T, what string, s impl.Store, got []impl.Step, want []impl.Step) {
	t.Helper()
	if !slices.Equal(got, want) {
		t.Fatalf("%s of %v\nis   %v,\nnot  %v", what, s, got, want)
	}
}

// mustTo is StepsTo, which must be true.
func mustTo(t *testing.T, s impl.Store, steps []impl.Step, cut int, torn bool) impl.Store {
	t.Helper()
	to, ok := impl.StepsTo(s, steps, cut, torn)
	if !ok {
		t.Fatalf("StepsTo(%v, %v, %d, %v) is false", s, steps, cut, torn)
	}
	return to
}

// mustHave says that a store is ok, and has such values.
func mustHave(t *testing.T, what string, s impl.Store, vals []int) {
	t.Helper()
	if all := impl.StoreAll(s); !impl.StoreOk(s) || !slices.Equal(all, vals) {
		t.Fatalf("%s: %v: ok %v, values %v, not %v", what, s, impl.StoreOk(s), all, vals)
	}
}

// falls calls what is wanted with the store behind each number of steps, the next one torn or not, also past their end.
func falls(t *testing.T, s impl.Store, steps []impl.Step, then func(cut int, torn bool, to impl.Store)) {
	t.Helper()
	for cut := 0; cut <= len(steps)+1; cut++ {
		for _, torn := range []bool{false, true} {
			then(cut, torn, mustTo(t, s, steps, cut, torn))
		}
	}
}

// namedSteps is steps, and by which function they came.
type namedSteps struct {
	name  string
	steps []impl.Step
}

// stepsOf is all steps that there are of an address.
func stepsOf(s impl.Store, addr int, val int) []namedSteps {
	return []namedSteps{
		{fmt.Sprint("StepsPut ", addr, " ", val), impl.StepsPut(s, addr, val)},
		{fmt.Sprint("StepsFlush ", addr), impl.StepsFlush(s, addr)},
		{fmt.Sprint("StepsFill ", addr), impl.StepsFill(s, addr)},
	}
}

func TestStepKindsAreThoseOfTheDocument(t *testing.T) {
	if impl.StepDisk != 1 || impl.StepWipe != 2 || impl.StepWrite != 3 {
		t.Error(impl.StepDisk, impl.StepWipe, impl.StepWrite)
	}
}

func TestStepsAreAsTheDocumentSays(t *testing.T) {
	counts := map[string]int{}
	for i, s := range stepStores() {
		for addr := 1; addr <= 6; addr++ {
			val := (i + addr) % 10
			put, flush, fill := impl.StepsPut(s, addr, val), impl.StepsFlush(s, addr), impl.StepsFill(s, addr)
			mustSteps(t, fmt.Sprint("StepsPut ", addr, " ", val), s, put, wantToWrite(s, 1, addr, val))
			mustSteps(t, fmt.Sprint("StepsFlush ", addr), s, flush, wantFlush(s, addr))
			mustSteps(t, fmt.Sprint("StepsFill ", addr), s, fill, wantFill(s, addr))
			counts[fmt.Sprint("put ", len(put))]++
			counts[fmt.Sprint("flush ", len(flush))]++
			counts[fmt.Sprint("fill ", len(fill))]++
		}
	}
	for _, sort := range []string{"put 0", "put 1", "put 2", "put 3", "put 4", "flush 0", "flush 2", "flush 3", "flush 4", "flush 5", "fill 0", "fill 1", "fill 2", "fill 3", "fill 4"} {
		if counts[sort] < 20 {
			t.Errorf("just %d of %s steps", counts[sort], sort)
		}
	}
}

func TestP36BehindAllStepsOfAPutTheValueIsRead(t *testing.T) {
	tried := 0
	for i, s := range stepStores() {
		for addr := 1; addr <= 6; addr++ {
			val := (i*3 + addr) % 10
			steps := impl.StepsPut(s, addr, val)
			if len(steps) == 0 {
				continue
			}
			tried++
			want := wantValues(s)
			want[addr-1] = val
			to := mustTo(t, s, steps, len(steps), false)
			mustHave(t, fmt.Sprint("behind StepsPut ", addr, " ", val), to, want)
			if !slices.Contains(impl.StoreDirty(to), addr) {
				t.Fatalf("StepsPut(%v, %d, %d): it is not dirty in %v", s, addr, val, to)
			}
		}
	}
	if tried < 1000 {
		t.Errorf("just %d were put", tried)
	}
}

func TestP37AllOrNothing(t *testing.T) {
	for i, s := range stepStores() {
		addr, val := 1+i%6, i*7%10
		steps := impl.StepsPut(s, addr, val)
		was, put := wantValues(s), wantValues(s)
		put[addr-1] = val
		falls(t, s, steps, func(cut int, torn bool, to impl.Store) {
			want := was
			if cut >= len(steps) && len(steps) > 0 {
				want = put
			}
			mustHave(t, fmt.Sprint("StepsPut ", addr, " ", val, " cut at ", cut, ", torn ", torn), to, want)
		})
	}
}

func TestP38TheShapeOfAPut(t *testing.T) {
	straight, wiped := 0, 0
	for i, s := range stepStores() {
		addr, val := 1+i%6, i%10
		steps := impl.StepsPut(s, addr, val)
		if len(steps) == 0 {
			continue
		}
		block, open := impl.FindOpen(s.Flash)
		ahead := steps[:len(steps)-1]
		var want []impl.Step
		if open {
			straight++
		} else {
			wiped++
			block = impl.FindOld(s.Flash)
			for page, p := range s.Flash[block].Pages {
				if impl.FindLive(s.Flash, block, page) && p.Rec.Kind == impl.RecDirty {
					want = append(want, impl.Step{Kind: impl.StepDisk, Addr: p.Rec.Addr, Val: p.Rec.Val})
				}
			}
			want = append(want, impl.Step{Kind: impl.StepWipe, Block: block})
		}
		mustSteps(t, fmt.Sprint("ahead of the last of StepsPut ", addr, " ", val), s, ahead, want)
		r := impl.Rec{Kind: impl.RecDirty, Seq: impl.FindNext(s.Flash), Addr: addr, Val: val}
		mustSteps(t, "the last of StepsPut", s, steps[len(steps)-1:], []impl.Step{{Kind: impl.StepWrite, Block: block, Rec: r}})
	}
	if straight < 100 || wiped < 100 {
		t.Errorf("%d straight, %d wiped: too few of one sort", straight, wiped)
	}
}

func TestP39WhenNothingCanBePut(t *testing.T) {
	counts := map[bool]int{}
	for _, s := range stepStores() {
		_, open := impl.FindOpen(s.Flash)
		old := impl.FindOld(s.Flash)
		none := impl.FindNext(s.Flash) > impl.SeqMax || !open && s.Flash[old].Worn == impl.WornMax
		counts[none]++
		for addr := 1; addr <= 6; addr++ {
			for _, val := range []int{0, addr, 9} {
				if steps := impl.StepsPut(s, addr, val); (len(steps) == 0) != none {
					t.Fatalf("StepsPut(%v, %d, %d) is %v", s, addr, val, steps)
				}
			}
		}
	}
	if counts[true] < 50 || counts[false] < 500 {
		t.Errorf("%d are none, %d are not: too few of one sort", counts[true], counts[false])
	}
}

func TestP39NumbersThatAreUsedUp(t *testing.T) {
	for _, s := range lastNumbers() {
		next := impl.FindNext(s.Flash)
		for addr := 1; addr <= 6; addr++ {
			for _, c := range stepsOf(s, addr, 5) {
				if next == 601 && len(c.steps) > 0 {
					t.Errorf("%s of %v is %v", c.name, s, c.steps)
				}
			}
			put := impl.StepsPut(s, addr, 5)
			if next == 600 && (len(put) == 0 || put[len(put)-1].Rec.Seq != 600) {
				t.Errorf("StepsPut(%v, %d, 5) is %v", s, addr, put)
			}
		}
	}
}

func TestStepsOfNoAddressAndNoValueAreNone(t *testing.T) {
	for _, s := range fewStores() {
		for _, addr := range noAddrs() {
			for _, c := range stepsOf(s, addr, 5) {
				mustSteps(t, c.name, s, c.steps, nil)
			}
		}
		for _, val := range noVals() {
			for addr := 0; addr <= 7; addr++ {
				mustSteps(t, fmt.Sprint("StepsPut ", addr, " ", val), s, impl.StepsPut(s, addr, val), nil)
			}
		}
	}
}

func TestP40BehindAllStepsOfAFlushTheSlowDiskHasIt(t *testing.T) {
	tried := 0
	for _, s := range stepStores() {
		vals := wantValues(s)
		for addr := 1; addr <= 6; addr++ {
			steps := impl.StepsFlush(s, addr)
			if len(steps) == 0 {
				continue
			}
			tried++
			to := mustTo(t, s, steps, len(steps), false)
			mustHave(t, fmt.Sprint("behind StepsFlush ", addr), to, vals)
			last, ok := impl.FindLast(to.Flash, addr)
			if to.Disk[addr-1] != vals[addr-1] || slices.Contains(impl.StoreDirty(to), addr) || !ok || last.Kind != impl.RecClean {
				t.Fatalf("StepsFlush(%v, %d) leaves %v", s, addr, to)
			}
			mustSteps(t, "StepsFlush once more", to, impl.StepsFlush(to, addr), nil)
		}
	}
	if tried < 1000 {
		t.Errorf("just %d were flushed", tried)
	}
}

func TestP41AFlushThatFallsChangesNoValue(t *testing.T) {
	for i, s := range stepStores() {
		vals := wantValues(s)
		for addr := 1 + i%2; addr <= 6; addr += 2 {
			falls(t, s, impl.StepsFlush(s, addr), func(cut int, torn bool, to impl.Store) {
				mustHave(t, fmt.Sprint("StepsFlush ", addr, " cut at ", cut, ", torn ", torn), to, vals)
			})
		}
	}
}

func TestP42TheShapeOfAFlush(t *testing.T) {
	for _, s := range stepStores() {
		for addr := 1; addr <= 6; addr++ {
			steps := impl.StepsFlush(s, addr)
			dirty := slices.Contains(impl.StoreDirty(s), addr)
			val := impl.StoreRead(s, addr)
			can := len(impl.StepsPut(s, addr, val)) > 0
			if (len(steps) == 0) != (!dirty || !can) {
				t.Fatalf("StepsFlush(%v, %d) is %v", s, addr, steps)
			}
			if len(steps) == 0 {
				continue
			}
			last := steps[len(steps)-1]
			r := impl.Rec{Kind: impl.RecClean, Seq: impl.FindNext(s.Flash), Addr: addr, Val: val}
			if steps[0] != diskTold(addr, val) || last.Kind != impl.StepWrite || last.Rec != r {
				t.Fatalf("StepsFlush(%v, %d) is %v", s, addr, steps)
			}
		}
	}
}

func TestP43FillWritesWhatJustTheSlowDiskHas(t *testing.T) {
	has, hasNot := 0, 0
	for _, s := range stepStores() {
		vals := wantValues(s)
		for addr := 1; addr <= 6; addr++ {
			steps := impl.StepsFill(s, addr)
			if _, ok := impl.FindLast(s.Flash, addr); ok {
				has++
				mustSteps(t, fmt.Sprint("StepsFill ", addr), s, steps, nil)
				continue
			}
			if can := len(impl.StepsPut(s, addr, 0)) > 0; can != (len(steps) > 0) {
				t.Fatalf("StepsFill(%v, %d) is %v", s, addr, steps)
			}
			falls(t, s, steps, func(cut int, torn bool, to impl.Store) {
				mustHave(t, fmt.Sprint("StepsFill ", addr, " cut at ", cut, ", torn ", torn), to, vals)
			})
			if len(steps) > 0 {
				hasNot++
				to := mustTo(t, s, steps, len(steps), false)
				mustLast(t, to.Flash, addr, impl.Rec{Kind: 2, Seq: impl.FindNext(s.Flash), Addr: addr, Val: s.Disk[addr-1]}, true)
			}
		}
	}
	if has < 1000 || hasNot < 500 {
		t.Errorf("%d have a record, %d were filled: too few of one sort", has, hasNot)
	}
}

func TestP44SomeStepsAndThenTheOthers(t *testing.T) {
	for i, s := range fewStores() {
		for _, c := range stepsOf(s, 1+i%6, i%10) {
			for some := 0; some <= len(c.steps)+1; some++ {
				at := mustTo(t, s, c.steps, some, false)
				others := c.steps[min(some, len(c.steps)):]
				for more := 0; more <= len(others)+1; more++ {
					for _, torn := range []bool{false, true} {
						whole := mustTo(t, s, c.steps, some+more, torn)
						if parts := mustTo(t, at, others, more, torn); !sameStore(whole, parts) {
							t.Fatalf("%s of %v: %d and %d, torn %v, leave %v, not %v", c.name, s, some, more, torn, parts, whole)
						}
					}
				}
			}
		}
	}
}

func TestP44OfNoneItIsTheStore(t *testing.T) {
	for i, s := range stepStores() {
		steps := impl.StepsPut(s, 1+i%6, i%10)
		if to := mustTo(t, s, steps, 0, false); !sameStore(to, s) {
			t.Fatalf("none of %v leaves %v of %v", steps, to, s)
		}
		for _, none := range [][]impl.Step{nil, {}, steps[:0]} {
			for _, cut := range []int{0, 1, 2, math.MaxInt} {
				for _, torn := range []bool{false, true} {
					if to := mustTo(t, s, none, cut, torn); !sameStore(to, s) {
						t.Fatalf("no steps leave %v of %v", to, s)
					}
				}
			}
		}
	}
}

// anySteps is steps of all kinds, of which some can be done, and some cannot.
func anySteps(s impl.Store, next func(int) int) []impl.Step {
	var steps []impl.Step
	for n := next(8); n > 0; n-- {
		switch next(4) {
		case 0:
			steps = append(steps, diskTold(1+next(6), next(10)))
		case 1:
			steps = append(steps, blockWiped(next(4)))
		default:
			r := impl.Rec{Kind: 1 + next(2), Seq: 1 + next(600), Addr: 1 + next(6), Val: next(10)}
			if seqs := allSeqs(s.Flash); len(seqs) > 0 && next(3) == 0 {
				r.Seq = seqs[next(len(seqs))]
			}
			steps = append(steps, recWritten(next(4), r))
		}
	}
	return steps
}

func TestStepsToOfAnyStepsIsAsTheDocumentSays(t *testing.T) {
	next := steadyNumbers(23)
	for i := 0; i < 3; i++ {
		for _, s := range stepStores() {
			steps := anySteps(s, next)
			falls(t, s, steps, func(cut int, torn bool, to impl.Store) {
				if want := wantTo(s, steps, cut, torn); !sameStore(to, want) {
					t.Fatalf("StepsTo(%v, %v, %d, %v)\nis   %v,\nnot  %v", s, steps, cut, torn, to, want)
				}
			})
		}
	}
}

func TestStepsThatComeFromElsewhereMayLeaveAStoreThatIsNotOk(t *testing.T) {
	s := allClean()
	steps := []impl.Step{diskTold(1, 8), blockWiped(3), recWritten(3, dirtyRec(600, 1, 2)), recWritten(2, cleanRec(7, 2, 1))}
	to := mustTo(t, s, steps, 4, false)
	if want := wantTo(s, steps, 4, false); !sameStore(to, want) || impl.StoreOk(to) || to.Disk[0] != 8 {
		t.Errorf("%v, not %v", to, want)
	}
	if _, ok := impl.StepsTo(to, nil, 0, false); ok {
		t.Error("a store that is not ok is taken")
	}
}

func TestP45TheSlowDiskHasWhatWholeStepsTold(t *testing.T) {
	next := steadyNumbers(29)
	for i, s := range stepStores() {
		lists := [][]impl.Step{anySteps(s, next)}
		for _, c := range stepsOf(s, 1+i%6, i%10) {
			lists = append(lists, c.steps)
		}
		for _, steps := range lists {
			falls(t, s, steps, func(cut int, torn bool, to impl.Store) {
				want := slices.Clone(s.Disk)
				for _, step := range steps[:min(cut, len(steps))] {
					if step.Kind == impl.StepDisk {
						want[step.Addr-1] = step.Val
					}
				}
				if !slices.Equal(to.Disk, want) {
					t.Fatalf("StepsTo(%v, %v, %d, %v): the slow disk has %v, not %v", s, steps, cut, torn, to.Disk, want)
				}
			})
		}
	}
}

func TestP45EachKindTorn(t *testing.T) {
	s := allDirty()
	r := cleanRec(7, 3, 3)
	for kind, step := range map[string]impl.Step{"disk": diskTold(2, 5), "wipe": blockWiped(0), "write": recWritten(1, r)} {
		done, torn := mustTo(t, s, []impl.Step{step}, 1, true), mustTo(t, s, []impl.Step{step}, 0, true)
		wantDone, wantTorn := copyStore(s), copyStore(s)
		switch kind {
		case "disk":
			wantDone.Disk[1] = 5
		case "wipe":
			wantDone.Flash[0] = impl.Block{Pages: make([]impl.Page, 4), Worn: 1}
			wantTorn.Flash[0] = impl.Block{Pages: []impl.Page{tornPage(), tornPage(), tornPage(), tornPage()}, Worn: 1}
		case "write":
			wantDone.Flash[1].Pages[2] = livePage(r)
			wantTorn.Flash[1].Pages[2] = tornPage()
		}
		if !sameStore(done, wantDone) || !sameStore(torn, wantTorn) {
			t.Errorf("%s: done %v, torn %v", kind, done, torn)
		}
	}
}

func TestP46HowManyStepsThereAre(t *testing.T) {
	most := map[string]int{}
	for i, s := range append(stepStores(), eldestAllDirty()) {
		_, open := impl.FindOpen(s.Flash)
		limit := impl.PageMax + 2
		if open {
			limit = 1
		}
		for addr := 1; addr <= 6; addr++ {
			put, flush := len(impl.StepsPut(s, addr, i%10)), len(impl.StepsFlush(s, addr))
			if put > limit || flush > limit+1 {
				t.Fatalf("%v: %d to put, %d to flush", s, put, flush)
			}
			most["put"], most["flush"] = max(most["put"], put), max(most["flush"], flush)
		}
	}
	if most["put"] != 6 || most["flush"] != 7 {
		t.Errorf("at most %v: as many as there may be are never met", most)
	}
}

func TestP47StepsToIsTrueOfAnyNumberOfThem(t *testing.T) {
	for i, s := range stepStores() {
		for _, c := range stepsOf(s, 1+i%6, i%10) {
			falls(t, s, c.steps, func(cut int, torn bool, to impl.Store) {
				if !impl.StoreOk(to) {
					t.Fatalf("%s of %v cut at %d, torn %v: %v", c.name, s, cut, torn, to)
				}
			})
			all := mustTo(t, s, c.steps, len(c.steps), false)
			for _, cut := range []int{len(c.steps) + 1, 1 << 32, math.MaxInt} {
				for _, torn := range []bool{false, true} {
					if to := mustTo(t, s, c.steps, cut, torn); !sameStore(to, all) {
						t.Fatalf("%s of %v cut at %d, torn %v: %v, not %v", c.name, s, cut, torn, to, all)
					}
				}
			}
		}
	}
}

func TestP48AFlushIsAPutOfTheValueAsClean(t *testing.T) {
	for _, s := range stepStores() {
		for addr := 1; addr <= 6; addr++ {
			flush := impl.StepsFlush(s, addr)
			if len(flush) == 0 {
				continue
			}
			put := impl.StepsPut(s, addr, impl.StoreRead(s, addr))
			put[len(put)-1].Rec.Kind = impl.RecClean
			mustSteps(t, fmt.Sprint("StepsFlush without its first of ", addr), s, flush[1:], put)
		}
	}
}

func TestP49TheFirstStepTorn(t *testing.T) {
	for i, s := range stepStores() {
		steps := impl.StepsPut(s, 1+i%6, i%10)
		to := mustTo(t, s, steps, 0, true)
		mustHave(t, fmt.Sprint("the first torn of ", steps), to, wantValues(s))
		if !slices.Equal(to.Disk, s.Disk) {
			t.Fatalf("the first of %v torn: the slow disk has %v, not %v", steps, to.Disk, s.Disk)
		}
	}
}

// eldestPages is a store without a clean page whose eldest block, the third, has these pages; all others have address 6.
func eldestPages(pages ...impl.Page) impl.Store {
	f := recBlocks(
		[]impl.Rec{dirtyRec(105, 6, 1), dirtyRec(106, 6, 2), dirtyRec(107, 6, 3), dirtyRec(108, 6, 4)},
		[]impl.Rec{dirtyRec(113, 6, 5), dirtyRec(114, 6, 6), dirtyRec(115, 6, 7), dirtyRec(116, 6, 8)},
		nil,
		[]impl.Rec{dirtyRec(109, 6, 9), dirtyRec(110, 6, 0), dirtyRec(111, 6, 1), dirtyRec(112, 6, 2)},
	)
	f[2] = impl.Block{Pages: pages, Worn: 199}
	s := impl.Store{Flash: f, Disk: []int{9, 9, 9, 9, 9, 9}}
	for _, p := range pages {
		if p.Rec.Kind == 2 {
			s.Disk[p.Rec.Addr-1] = p.Rec.Val
		}
	}
	return s
}

// eldestAllDirty is such a store all of whose eldest pages live, and are dirty.
func eldestAllDirty() impl.Store {
	return eldestPages(livePage(dirtyRec(4, 5, 1)), livePage(dirtyRec(3, 2, 2)), livePage(dirtyRec(2, 4, 3)), livePage(dirtyRec(1, 1, 0)))
}

// eldestCase is the pages of the eldest block, and what the slow disk must be told of them.
type eldestCase struct {
	name  string
	pages []impl.Page
	told  []impl.Step
}

// eldestCases is what may live on the block that is wiped, case by case.
func eldestCases() []eldestCase {
	dirty := func(seq int, addr int, val int) impl.Page { return livePage(dirtyRec(seq, addr, val)) }
	clean := func(seq int, addr int, val int) impl.Page { return livePage(cleanRec(seq, addr, val)) }
	torn := tornPage()
	return []eldestCase{
		{"all live, and are dirty", eldestAllDirty().Flash[2].Pages, []impl.Step{diskTold(5, 1), diskTold(2, 2), diskTold(4, 3), diskTold(1, 0)}},
		{"all live, and are clean", []impl.Page{clean(1, 5, 1), clean(2, 2, 2), clean(3, 4, 3), clean(4, 1, 0)}, nil},
		{"all are torn", []impl.Page{torn, torn, torn, torn}, nil},
		{"none lives: another block has it", []impl.Page{dirty(1, 6, 1), clean(2, 6, 2), dirty(3, 6, 3), dirty(4, 6, 8)}, nil},
		{"the last one lives alone", []impl.Page{dirty(1, 3, 1), clean(2, 3, 2), dirty(3, 3, 3), dirty(4, 3, 7)}, []impl.Step{diskTold(3, 7)}},
		{"the first one lives alone", []impl.Page{dirty(9, 3, 1), dirty(8, 3, 2), dirty(7, 3, 3), dirty(6, 3, 7)}, []impl.Step{diskTold(3, 1)}},
		{"one of each sort", []impl.Page{torn, clean(5, 1, 4), dirty(6, 6, 5), dirty(7, 2, 6)}, []impl.Step{diskTold(2, 6)}},
		{"one of each sort, turned", []impl.Page{dirty(7, 2, 6), dirty(8, 6, 5), clean(9, 1, 4), torn}, []impl.Step{diskTold(2, 6)}},
		{"clean over dirty", []impl.Page{dirty(5, 1, 4), dirty(6, 2, 5), clean(7, 1, 4), dirty(8, 4, 0)}, []impl.Step{diskTold(2, 5), diskTold(4, 0)}},
		{"dirty over clean", []impl.Page{clean(5, 1, 9), torn, clean(6, 2, 9), dirty(7, 1, 6)}, []impl.Step{diskTold(1, 6)}},
		{"one value of two addresses", []impl.Page{dirty(5, 4, 7), dirty(6, 3, 7), torn, torn}, []impl.Step{diskTold(4, 7), diskTold(3, 7)}},
		{"the value that the slow disk has", []impl.Page{dirty(5, 4, 9), torn, torn, torn}, []impl.Step{diskTold(4, 9)}},
	}
}

func TestWhatLivesOnTheBlockThatIsWiped(t *testing.T) {
	for _, c := range eldestCases() {
		s := eldestPages(c.pages...)
		if !impl.StoreOk(s) {
			t.Fatalf("%s: not ok: %v", c.name, s)
		}
		vals, dirty := wantValues(s), wantDirty(s)
		for addr := 1; addr <= 6; addr++ {
			put := append(slices.Clone(c.told), blockWiped(2), recWritten(2, dirtyRec(117, addr, 5)))
			mustSteps(t, fmt.Sprint(c.name, ": StepsPut ", addr, " 5"), s, impl.StepsPut(s, addr, 5), put)
			record := append(slices.Clone(c.told), blockWiped(2), recWritten(2, cleanRec(117, addr, vals[addr-1])))
			var flush, fill []impl.Step
			if slices.Contains(dirty, addr) {
				flush = append([]impl.Step{diskTold(addr, vals[addr-1])}, record...)
			} else if _, ok := wantLast(s.Flash, addr); !ok {
				fill = record
			}
			mustSteps(t, fmt.Sprint(c.name, ": StepsFlush ", addr), s, impl.StepsFlush(s, addr), flush)
			mustSteps(t, fmt.Sprint(c.name, ": StepsFill ", addr), s, impl.StepsFill(s, addr), fill)
		}
	}
}

func TestWhateverLivesOnTheBlockThatIsWipedStays(t *testing.T) {
	for _, c := range eldestCases() {
		s := eldestPages(c.pages...)
		for addr := 1; addr <= 6; addr++ {
			for _, list := range stepsOf(s, addr, 5) {
				falls(t, s, list.steps, func(cut int, torn bool, to impl.Store) {
					want := wantValues(s)
					if list.name[:8] == "StepsPut" && cut >= len(list.steps) {
						want[addr-1] = 5
					}
					what := fmt.Sprint(c.name, ": ", list.name, " cut at ", cut, ", torn ", torn)
					mustHave(t, what, to, want)
					// The block was worn 199 times: torn, it cannot be wiped again, and nothing is put any more.
					if _, open := impl.FindOpen(to.Flash); to.Flash[2].Worn == 200 && !open {
						mustSteps(t, what, to, impl.StepsPut(to, addr, 1), nil)
					}
				})
			}
		}
	}
}

func TestTheSlowDiskIsToldAheadOfTheWipe(t *testing.T) {
	s := eldestAllDirty()
	steps := impl.StepsPut(s, 1, 9)
	for cut := 0; cut <= 4; cut++ {
		want := []int{9, 9, 9, 9, 9, 9}
		for _, told := range [][2]int{{5, 1}, {2, 2}, {4, 3}, {1, 0}}[:cut] {
			want[told[0]-1] = told[1]
		}
		for _, torn := range []bool{false, true} {
			to := mustTo(t, s, steps, cut, torn)
			if !slices.Equal(to.Disk, want) || sameFlash(to.Flash, s.Flash) != (cut < 4 || !torn) {
				t.Errorf("%d of %v, torn %v: %v", cut, steps, torn, to)
			}
		}
	}
}

func TestABlockThatCannotBeWiped(t *testing.T) {
	full := eldestAllDirty()
	begun := copyStore(full)
	begun.Flash[1].Pages[3] = impl.Page{}
	empty := copyStore(full)
	empty.Flash[1] = impl.Block{Pages: make([]impl.Page, 4), Worn: 200}
	for _, worn := range []int{0, 1, 199, 200} {
		for _, others := range []int{0, 200} {
			for b := range full.Flash {
				full.Flash[b].Worn, begun.Flash[b].Worn, empty.Flash[b].Worn = others, others, others
			}
			full.Flash[2].Worn, begun.Flash[2].Worn, empty.Flash[2].Worn = worn, worn, worn
			want := map[bool]int{true: 0, false: 6}[worn == 200]
			if put, flush := impl.StepsPut(full, 3, 7), impl.StepsFlush(full, 1); len(put) != want || len(flush) != want+min(want, 1) {
				t.Errorf("worn %d, others %d: StepsPut %v, StepsFlush %v", worn, others, put, flush)
			}
			if fill := impl.StepsFill(full, 3); len(fill) != want {
				t.Errorf("worn %d, others %d: StepsFill %v", worn, others, fill)
			}
			// A block worn WornMax times need not be wiped where a page is clean.
			mustSteps(t, "StepsPut 3 7", begun, impl.StepsPut(begun, 3, 7), []impl.Step{recWritten(1, dirtyRec(116, 3, 7))})
			mustSteps(t, "StepsFlush 1", begun, impl.StepsFlush(begun, 1), []impl.Step{diskTold(1, 0), recWritten(1, cleanRec(116, 1, 0))})
			mustSteps(t, "StepsFill 3", begun, impl.StepsFill(begun, 3), []impl.Step{recWritten(1, cleanRec(116, 3, 9))})
			mustSteps(t, "StepsPut 3 7", empty, impl.StepsPut(empty, 3, 7), []impl.Step{recWritten(1, dirtyRec(113, 3, 7))})
		}
	}
}

func TestFlushAndFillOfDirtyCleanAndNoRecord(t *testing.T) {
	f := recBlocks([]impl.Rec{dirtyRec(1, 1, 4), cleanRec(2, 2, 5), dirtyRec(3, 3, 6)}, nil)
	s := impl.Store{Flash: f, Disk: []int{0, 5, 6, 7, 0, 0}}
	write := func(r impl.Rec) impl.Step { return recWritten(0, r) }
	for addr, c := range map[int]struct{ flush, fill []impl.Step }{
		1: {flush: []impl.Step{diskTold(1, 4), write(cleanRec(4, 1, 4))}},
		2: {},
		3: {flush: []impl.Step{diskTold(3, 6), write(cleanRec(4, 3, 6))}},
		4: {fill: []impl.Step{write(cleanRec(4, 4, 7))}},
		5: {fill: []impl.Step{write(cleanRec(4, 5, 0))}},
		0: {}, 7: {}, -1: {},
	} {
		mustSteps(t, fmt.Sprint("StepsFlush ", addr), s, impl.StepsFlush(s, addr), c.flush)
		mustSteps(t, fmt.Sprint("StepsFill ", addr), s, impl.StepsFill(s, addr), c.fill)
	}
}

func TestStepsThatCannotBeDoneChangeNothing(t *testing.T) {
	s := eldestAllDirty()
	s.Flash[0].Worn = 200
	s.Flash[1].Pages[3] = impl.Page{}
	s.Flash[3].Pages[3] = tornPage()
	for name, step := range map[string]impl.Step{
		"no clean page":                 recWritten(0, dirtyRec(300, 1, 1)),
		"no clean page, a torn one":     recWritten(3, dirtyRec(300, 1, 1)),
		"a number that is there":        recWritten(1, dirtyRec(115, 1, 1)),
		"a number on another block":     recWritten(1, cleanRec(1, 1, 0)),
		"a block worn WornMax times":    blockWiped(0),
		"a record that is there, whole": recWritten(1, dirtyRec(115, 6, 7)),
	} {
		for _, torn := range []bool{false, true} {
			for cut := 0; cut <= 2; cut++ {
				if to := mustTo(t, s, []impl.Step{step}, cut, torn); !sameStore(to, s) {
					t.Errorf("%s: %v, cut %d, torn %v: %v", name, step, cut, torn, to)
				}
			}
		}
		// Those behind it are done none the less.
		steps := []impl.Step{step, diskTold(6, 2), step, recWritten(1, cleanRec(300, 2, 2)), step}
		if to, want := mustTo(t, s, steps, 5, false), wantTo(s, steps, 5, false); !sameStore(to, want) || to.Disk[5] != 2 {
			t.Errorf("%s: %v leaves %v, not %v", name, steps, to, want)
		}
	}
}

// someRecs is records of which something is there, in each part alone, and in all.
func someRecs() []impl.Rec {
	return []impl.Rec{{Kind: 1}, {Seq: 1}, {Addr: 1}, {Val: 1}, {Val: -1}, {Kind: 2, Seq: 600, Addr: 6, Val: 9}, dirtyRec(7, 3, 0)}
}

// wrongSteps is steps that are none: each kind with one part that is wrong, or that it has not.
func wrongSteps() []impl.Step {
	r := dirtyRec(7, 3, 2)
	all := []impl.Step{{}}
	for _, kind := range []int{0, 4, -1, -2, -3, 257, 1<<32 + 1, math.MinInt, math.MaxInt} {
		all = append(all, impl.Step{Kind: kind}, impl.Step{Kind: kind, Addr: 3, Val: 2},
			impl.Step{Kind: kind, Block: 2}, impl.Step{Kind: kind, Block: 2, Rec: r})
	}
	for _, addr := range noAddrs() {
		all = append(all, diskTold(addr, 0), diskTold(addr, 9))
		if addr != 0 {
			all = append(all, impl.Step{Kind: 2, Addr: addr}, impl.Step{Kind: 3, Addr: addr, Rec: r})
		}
	}
	for _, val := range noVals() {
		all = append(all, diskTold(1, val), diskTold(6, val), impl.Step{Kind: 2, Val: val}, impl.Step{Kind: 3, Val: val, Rec: r})
	}
	for n := 1; n <= 6; n++ {
		all = append(all, impl.Step{Kind: 2, Addr: n}, impl.Step{Kind: 2, Val: n})
		all = append(all, impl.Step{Kind: 3, Addr: n, Rec: r}, impl.Step{Kind: 3, Val: n, Rec: r})
	}
	all = append(all, impl.Step{Kind: 3, Addr: 3, Val: 2, Rec: r})
	for _, block := range append(noBlocks(), 1, 2, 3) {
		all = append(all, impl.Step{Kind: 1, Addr: 3, Val: 2, Block: block})
	}
	for _, block := range noBlocks() {
		all = append(all, blockWiped(block), recWritten(block, r))
	}
	for _, some := range someRecs() {
		all = append(all, impl.Step{Kind: 1, Addr: 3, Val: 2, Rec: some}, impl.Step{Kind: 2, Rec: some})
	}
	all = append(all, recWritten(0, impl.Rec{}))
	for i, wrong := range wrongRecs() {
		if i < 60 || i%13 == 0 {
			all = append(all, recWritten(i%4, wrong))
		}
	}
	return all
}

// mustToNothing says that StepsTo is nothing and false.
func mustToNothing(t *testing.T, what string, s impl.Store, steps []impl.Step, cut int, torn bool) {
	t.Helper()
	if to, ok := impl.StepsTo(s, steps, cut, torn); ok || len(to.Flash) != 0 || len(to.Disk) != 0 {
		t.Fatalf("%s: StepsTo(%v, %v, %d, %v) is %v %v", what, s, steps, cut, torn, to, ok)
	}
}

func TestStepsThatAreNone(t *testing.T) {
	good := []impl.Step{diskTold(2, 3), blockWiped(1), recWritten(1, cleanRec(9, 2, 3))}
	for _, s := range []impl.Store{impl.StoreNew(), allDirty(), eldestAllDirty()} {
		for _, wrong := range wrongSteps() {
			// Wherever it stands, ahead of the cut, at it, or behind it: one of all is no step.
			for place := 0; place <= 3; place++ {
				steps := slices.Insert(slices.Clone(good), place, wrong)
				for cut := 0; cut <= 5; cut++ {
					mustToNothing(t, "a step that is none", s, steps, cut, cut%2 == 0)
					mustToNothing(t, "a step that is none", s, steps, cut, cut%2 == 1)
				}
			}
			mustToNothing(t, "a step that is none, alone", s, []impl.Step{wrong}, 0, false)
		}
		mustTo(t, s, good, 3, false)
	}
}

func TestStepsAtTheLimits(t *testing.T) {
	var steps []impl.Step
	for _, addr := range []int{1, 6} {
		for _, val := range []int{0, 9} {
			steps = append(steps, diskTold(addr, val))
		}
	}
	for block := 0; block <= 3; block++ {
		steps = append(steps, blockWiped(block))
		for _, r := range edgeRecs() {
			steps = append(steps, recWritten(block, r))
		}
	}
	for _, s := range fewStores() {
		for _, cut := range []int{0, 1, len(steps) - 1, len(steps)} {
			for _, torn := range []bool{false, true} {
				if to, want := mustTo(t, s, steps, cut, torn), wantTo(s, steps, cut, torn); !sameStore(to, want) {
					t.Fatalf("cut %d, torn %v: %v, not %v", cut, torn, to, want)
				}
			}
		}
	}
}

func TestACutBelowNoneIsNone(t *testing.T) {
	for i, s := range fewStores() {
		for _, steps := range [][]impl.Step{nil, impl.StepsPut(s, 1+i%6, i%10), {diskTold(1, 1)}} {
			for _, cut := range []int{-1, -2, -1 << 32, math.MinInt} {
				mustToNothing(t, "below 0", s, steps, cut, false)
				mustToNothing(t, "below 0", s, steps, cut, true)
			}
			mustTo(t, s, steps, 0, true)
		}
	}
}

// mustStepNothing says that of a store that is not ok there are no steps, and none can be done.
func mustStepNothing(t *testing.T, name string, s impl.Store) {
	t.Helper()
	for addr := 0; addr <= 7; addr++ {
		for _, c := range stepsOf(s, addr, addr) {
			if len(c.steps) != 0 {
				t.Fatalf("%s: %s of %v is %v", name, c.name, s, c.steps)
			}
		}
	}
	for cut := 0; cut <= 1; cut++ {
		mustToNothing(t, name, s, nil, cut, true)
		mustToNothing(t, name, s, []impl.Step{diskTold(1, 1)}, cut, cut == 0)
	}
}

func TestStepsOfStoresThatAreNotOk(t *testing.T) {
	mustStepNothing(t, "nothing", impl.Store{})
	for _, s := range []impl.Store{impl.StoreNew(), allDirty(), allClean(), eldestAllDirty()} {
		for _, w := range wrongFlashes(s.Flash) {
			mustStepNothing(t, w.name, impl.Store{Flash: w.f, Disk: s.Disk})
		}
		for _, val := range noVals() {
			mustStepNothing(t, fmt.Sprint("the slow disk has ", val), withDisk(s, 3, val))
		}
		mustStepNothing(t, "a number less", impl.Store{Flash: s.Flash, Disk: s.Disk[:5]})
		mustStepNothing(t, "a number more", impl.Store{Flash: s.Flash, Disk: append(slices.Clone(s.Disk), 0)})
		mustStepNothing(t, "no slow disk", impl.Store{Flash: s.Flash})
	}
	mustStepNothing(t, "a clean record, and another value", withDisk(allClean(), 6, 9))
	mustStepNothing(t, "two were begun", impl.Store{Flash: seqBlocks([]int{1, 2, 3}, []int{4}), Disk: make([]int, 6)})
	mustStepNothing(t, "two overlap", impl.Store{Flash: seqBlocks([]int{2, 4, 6, 8}, []int{10, 12, 14, 7}), Disk: []int{0, 0, 0, 0, 0, 0}})
}

func TestStepsOfStoresOfAllSorts(t *testing.T) {
	oks, others := 0, 0
	for i, s := range anyStores() {
		addr, val := 1+i%6, i%10
		if !wantStoreOk(s) {
			others++
			mustStepNothing(t, "not ok", s)
			continue
		}
		oks++
		mustSteps(t, fmt.Sprint("StepsPut ", addr, " ", val), s, impl.StepsPut(s, addr, val), wantToWrite(s, 1, addr, val))
		mustSteps(t, fmt.Sprint("StepsFlush ", addr), s, impl.StepsFlush(s, addr), wantFlush(s, addr))
		mustSteps(t, fmt.Sprint("StepsFill ", addr), s, impl.StepsFill(s, addr), wantFill(s, addr))
	}
	if oks < 1000 || others < 1000 {
		t.Errorf("%d are ok, %d are not: too few of one sort", oks, others)
	}
}

// roomySteps is the steps in a list with spare room, which is filled with what nobody may touch.
func roomySteps(steps []impl.Step) []impl.Step {
	junk := impl.Step{Kind: 7, Addr: 7, Val: 77, Block: 7, Rec: impl.Rec{Kind: 7}}
	all := append(make([]impl.Step, 0, len(steps)+3), steps...)
	return append(all, junk, junk, junk)[:len(steps)]
}

// mustShareNoStep says that no two lists of steps share any place, spare room included.
func mustShareNoStep(t *testing.T, what string, lists ...[]impl.Step) {
	t.Helper()
	places := map[*impl.Step]bool{}
	for _, list := range lists {
		whole := list[:cap(list)]
		for i := range whole {
			if places[&whole[i]] {
				t.Fatalf("%s: two lists share a place", what)
			}
			places[&whole[i]] = true
		}
	}
}

// mustToAnew says that StepsTo answers new memory, and leaves what it was given, and its spare room, as it was.
func mustToAnew(t *testing.T, s impl.Store, steps []impl.Step, cut int, torn bool) {
	t.Helper()
	given, list := roomyStore(s), roomySteps(steps)
	was, wasList := wholeStore(given), slices.Clone(list[:cap(list)])
	to, ok := impl.StepsTo(given, list, cut, torn)
	again, _ := impl.StepsTo(given, list, cut, torn)
	if want := wantTo(s, steps, cut, torn); !ok || !sameStore(to, want) || !sameStore(again, want) {
		t.Fatalf("spare room changes StepsTo(%v, %v, %d, %v): %v %v, %v", s, steps, cut, torn, to, ok, again)
	}
	mustShareNothing(t, "StepsTo", given.Flash, to.Flash, again.Flash)
	mustShareNoNumber(t, "StepsTo", given.Disk, to.Disk, again.Disk)
	if now := wholeStore(given); !sameStore(now, was) || !slices.Equal(list[:cap(list)], wasList) {
		t.Fatalf("StepsTo(%v, %v, %d, %v) changed what it was given: %v", s, steps, cut, torn, now)
	}
}

func TestStepsToAnswersNewMemory(t *testing.T) {
	next := steadyNumbers(31)
	for i, s := range fewStores() {
		for _, steps := range [][]impl.Step{nil, anySteps(s, next), impl.StepsPut(s, 1+i%6, i%10), impl.StepsFlush(s, 1+i%6)} {
			for cut := 0; cut <= len(steps)+1; cut++ {
				mustToAnew(t, s, steps, cut, false)
				mustToAnew(t, s, steps, cut, true)
			}
		}
	}
}

func TestStepsToOfPagesThatShareMemory(t *testing.T) {
	// The clean blocks of a store may be one list that is handed in four times; no answer's may.
	pages := make([]impl.Page, 4)
	s := impl.Store{Flash: []impl.Block{{Pages: pages}, {Pages: pages}, {Pages: pages}, {Pages: pages}}, Disk: make([]int, 6)}
	steps := []impl.Step{recWritten(0, dirtyRec(1, 1, 1)), blockWiped(1), diskTold(1, 2)}
	for cut := 0; cut <= 3; cut++ {
		to := mustTo(t, s, steps, cut, true)
		mustShareNothing(t, "StepsTo", to.Flash)
		if want := wantTo(s, steps, cut, true); !sameStore(to, want) || pages[0].State != 0 {
			t.Errorf("cut %d: %v, not %v", cut, to, want)
		}
	}
}

func TestStepsAreNewMemoryAndStoresStay(t *testing.T) {
	for i, s := range fewStores() {
		given := roomyStore(s)
		was := wholeStore(given)
		var lists [][]impl.Step
		for _, addr := range []int{0, 1, 2, 3, 4, 5, 6, 7, 1, 6} {
			for _, c := range stepsOf(given, addr, i%10) {
				lists = append(lists, c.steps)
			}
		}
		mustShareNoStep(t, "StepsPut, StepsFlush and StepsFill", lists...)
		if now := wholeStore(given); !sameStore(now, was) {
			t.Fatalf("%v became %v", was, now)
		}
		for addr := 1; addr <= 6; addr++ {
			mustSteps(t, "StepsPut with spare room", s, impl.StepsPut(given, addr, 3), wantToWrite(s, 1, addr, 3))
			mustSteps(t, "StepsFlush with spare room", s, impl.StepsFlush(given, addr), wantFlush(s, addr))
			mustSteps(t, "StepsFill with spare room", s, impl.StepsFill(given, addr), wantFill(s, addr))
		}
	}
}

func TestAWrongStepInTheSpareRoomDoesNotCount(t *testing.T) {
	s := allDirty()
	steps := []impl.Step{diskTold(1, 1), {}}
	if to := mustTo(t, s, steps[:1], 2, true); to.Disk[0] != 1 {
		t.Error(to)
	}
	mustToNothing(t, "the wrong step is there", s, steps, 1, false)
}

func TestStepsAreTheSameEachTime(t *testing.T) {
	s := eldestAllDirty()
	put, flush := impl.StepsPut(s, 3, 3), impl.StepsFlush(s, 2)
	for i := 0; i < 200; i++ {
		mustSteps(t, "StepsPut 3 3", s, impl.StepsPut(s, 3, 3), put)
		mustSteps(t, "StepsFlush 2", s, impl.StepsFlush(s, 2), flush)
		if a, b := mustTo(t, s, put, i%8, true), mustTo(t, s, put, i%8, true); !sameStore(a, b) {
			t.Fatal(a, b)
		}
	}
}

func TestLongRunsOfStepsLoseNothing(t *testing.T) {
	for seed := uint32(1); seed <= 8; seed++ {
		next := steadyNumbers(seed)
		s, vals := impl.StoreNew(), make([]int, 6)
		for i := 0; i < 20000 && impl.FindNext(s.Flash) <= 600; i++ {
			addr, val := 1+next(6), next(10)
			c := stepsOf(s, addr, val)[next(3)]
			cut, torn := next(9), next(2) == 0
			if next(2) == 0 {
				cut = len(c.steps)
			}
			to := mustTo(t, s, c.steps, cut, torn)
			if want := wantTo(s, c.steps, cut, torn); !sameStore(to, want) {
				t.Fatalf("%s of %v cut at %d, torn %v: %v, not %v", c.name, s, cut, torn, to, want)
			}
			if c.name[:8] == "StepsPut" && cut >= len(c.steps) {
				vals[addr-1] = val
			}
			mustHave(t, fmt.Sprint(c.name, " cut at ", cut, ", torn ", torn), to, vals)
			s = to
		}
		if impl.FindNext(s.Flash) != 601 || len(impl.StepsPut(s, 1, 1)) != 0 {
			t.Errorf("seed %d ends at %v", seed, s)
		}
	}
}
