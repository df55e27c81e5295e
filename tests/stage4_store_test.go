package tests

import (
	"fmt"
	"math"
	"slices"
	"testing"

	"loop.example/buttery/impl"
)

// dirtyRec and cleanRec are records of both kinds.
func dirtyRec(seq int, addr int, val int) impl.Rec {
	return impl.Rec{Kind: 1, Seq: seq, Addr: addr, Val: val}
}

func cleanRec(seq int, addr int, val int) impl.Rec {
	return impl.Rec{Kind: 2, Seq: seq, Addr: addr, Val: val}
}

// recBlocks is blocks written with such records, block by block; those behind the last one stay clean.
func recBlocks(rows ...[]impl.Rec) []impl.Block {
	f := seqBlocks()
	for b, row := range rows {
		for i, r := range row {
			f[b].Pages[i] = impl.Page{State: 1, Rec: r}
		}
	}
	return f
}

// copyStore is the same store in other memory, by nothing of the program.
func copyStore(s impl.Store) impl.Store {
	return impl.Store{Flash: copyFlash(s.Flash), Disk: append([]int(nil), s.Disk...)}
}

// withDisk is the store with another number of one address on the slow disk.
func withDisk(s impl.Store, addr int, val int) impl.Store {
	other := copyStore(s)
	other.Disk[addr-1] = val
	return other
}

// otherRecs is the blocks with other kinds, addresses and values, each record of the number that it has.
func otherRecs(f []impl.Block, next func(int) int) []impl.Block {
	f = copyFlash(f)
	addrs := 1 + next(6)
	shift := next(6)
	for b := range f {
		for i, p := range f[b].Pages {
			if p.State == 1 {
				f[b].Pages[i].Rec = impl.Rec{Kind: 1 + next(2), Seq: p.Rec.Seq, Addr: 1 + (next(addrs)+shift)%6, Val: next(10)}
			}
		}
	}
	return f
}

// someDisk is values of all addresses, those of the clean ones as their last records say, all others any.
func someDisk(f []impl.Block, next func(int) int) []int {
	disk := make([]int, 6)
	for i := range disk {
		disk[i] = next(10)
		if r, ok := wantLast(f, i+1); ok && r.Kind == 2 {
			disk[i] = r.Val
		}
	}
	return disk
}

// allDirty is a store of which all addresses are dirty, written in an order that is none of addresses.
func allDirty() impl.Store {
	f := recBlocks(
		[]impl.Rec{dirtyRec(1, 5, 1), dirtyRec(2, 2, 9), dirtyRec(3, 6, 0), dirtyRec(4, 1, 4)},
		[]impl.Rec{dirtyRec(5, 4, 7), dirtyRec(6, 3, 3)},
	)
	return impl.Store{Flash: f, Disk: []int{9, 8, 7, 6, 5, 4}}
}

// allClean is a store of which all addresses have a record, and the slow disk all values.
func allClean() impl.Store {
	s := allDirty()
	for b := range s.Flash {
		for i, p := range s.Flash[b].Pages {
			if p.State == 1 {
				s.Flash[b].Pages[i].Rec.Kind = 2
			}
		}
	}
	s.Disk = []int{4, 9, 3, 7, 1, 0}
	return s
}

// okStores is stores that the document calls ok, at the edges and of all sorts.
func okStores() []impl.Store {
	all := []impl.Store{
		impl.StoreNew(), allDirty(), allClean(),
		{Flash: impl.FlashNew(), Disk: []int{9, 9, 9, 9, 9, 9}},
		{Flash: wornBlocks(impl.FlashNew(), 200, 0, 200, 7), Disk: []int{1, 2, 3, 4, 5, 6}},
	}
	next := steadyNumbers(11)
	for _, f := range orderedFlashes() {
		all = append(all, impl.Store{Flash: f, Disk: someDisk(f, next)})
		f = otherRecs(f, next)
		all = append(all, impl.Store{Flash: f, Disk: someDisk(f, next)})
	}
	return all
}

// someStores is the first ones of okStores, and each fortieth, for tests that try much with each.
func someStores() []impl.Store {
	var some []impl.Store
	for i, s := range okStores() {
		if i < 12 || i%40 == 0 {
			some = append(some, s)
		}
	}
	return some
}

// anyStores is stores whose blocks and whose slow disk are of all sorts, ok or not.
func anyStores() []impl.Store {
	next := steadyNumbers(13)
	var all []impl.Store
	for _, f := range allFlashes() {
		f = otherRecs(f, next)
		disk := someDisk(f, next)
		if next(3) == 0 {
			disk[next(6)] = next(12) - 1
		}
		all = append(all, impl.Store{Flash: f, Disk: disk})
	}
	return all
}

// wantStoreOk is what the document asks of StoreOk, if the blocks are ok.
func wantStoreOk(s impl.Store) bool {
	if !wantOrder(s.Flash) || len(s.Disk) != 6 {
		return false
	}
	for i, val := range s.Disk {
		r, ok := wantLast(s.Flash, i+1)
		if val < 0 || val > 9 || ok && r.Kind == 2 && r.Val != val {
			return false
		}
	}
	return true
}

// wantValues is the values of all addresses of an ok store, as the document says.
func wantValues(s impl.Store) []int {
	var vals []int
	for i, val := range s.Disk {
		if r, ok := wantLast(s.Flash, i+1); ok {
			val = r.Val
		}
		vals = append(vals, val)
	}
	return vals
}

// wantDirty is the addresses of an ok store that are dirty, as the document says.
func wantDirty(s impl.Store) []int {
	var addrs []int
	for addr := 1; addr <= 6; addr++ {
		if r, ok := wantLast(s.Flash, addr); ok && r.Kind == 1 {
			addrs = append(addrs, addr)
		}
	}
	return addrs
}

// mustRead says that a store is ok, and holds what is read of it against what is wanted.
func mustRead(t *testing.T, s impl.Store, vals []int, dirty []int) {
	t.Helper()
	if !impl.StoreOk(s) {
		t.Fatalf("not ok: %v", s)
	}
	for addr := 1; addr <= 6; addr++ {
		if val := impl.StoreRead(s, addr); val != vals[addr-1] {
			t.Fatalf("StoreRead(%v, %d) is %d, not %d", s, addr, val, vals[addr-1])
		}
	}
	for _, addr := range noAddrs() {
		if val := impl.StoreRead(s, addr); val != -1 {
			t.Fatalf("StoreRead(%v, %d) is %d", s, addr, val)
		}
	}
	if all := impl.StoreAll(s); !slices.Equal(all, vals) {
		t.Fatalf("StoreAll(%v) is %v, not %v", s, all, vals)
	}
	if addrs := impl.StoreDirty(s); !slices.Equal(addrs, dirty) {
		t.Fatalf("StoreDirty(%v) is %v, not %v", s, addrs, dirty)
	}
}

// mustReadNothing says that a store that is not ok is answered as the document says.
func mustReadNothing(t *testing.T, name string, s impl.Store) {
	t.Helper()
	if impl.StoreOk(s) {
		t.Fatalf("%s: ok: %v", name, s)
	}
	for _, addr := range append(noAddrs(), 1, 2, 3, 4, 5, 6) {
		if val := impl.StoreRead(s, addr); val != -1 {
			t.Fatalf("%s: StoreRead(%v, %d) is %d", name, s, addr, val)
		}
	}
	if all, dirty := impl.StoreAll(s), impl.StoreDirty(s); len(all) != 0 || len(dirty) != 0 {
		t.Fatalf("%s: %v: StoreAll %v, StoreDirty %v", name, s, all, dirty)
	}
}

func TestStoresAreAsTheDocumentSays(t *testing.T) {
	oks, others := 0, 0
	for _, s := range anyStores() {
		if wantStoreOk(s) {
			oks++
			mustRead(t, s, wantValues(s), wantDirty(s))
		} else {
			others++
			mustReadNothing(t, "not ok", s)
		}
	}
	if oks < 1000 || others < 1000 {
		t.Errorf("%d are ok, %d are not: too few of one sort", oks, others)
	}
	for _, s := range okStores() {
		mustRead(t, s, wantValues(s), wantDirty(s))
	}
}

func TestP29StoreReadIsTheLastOrTheDisks(t *testing.T) {
	here, there := 0, 0
	for _, s := range okStores() {
		for addr := 1; addr <= 6; addr++ {
			want := s.Disk[addr-1]
			if r, ok := impl.FindLast(s.Flash, addr); ok {
				want = r.Val
				here++
			} else {
				there++
			}
			if val := impl.StoreRead(s, addr); val != want {
				t.Fatalf("StoreRead(%v, %d) is %d, not %d", s, addr, val, want)
			}
		}
	}
	if here < 1000 || there < 1000 {
		t.Errorf("%d are here, %d on the slow disk alone: too few of one sort", here, there)
	}
}

func TestP29TheEdgesOfAddresses(t *testing.T) {
	for _, s := range []impl.Store{impl.StoreNew(), allDirty(), allClean()} {
		vals := wantValues(s)
		for addr, want := range map[int]int{
			1: vals[0], 6: vals[5], 0: -1, -1: -1, 7: -1, -6: -1, 1<<32 + 1: -1, math.MinInt: -1, math.MaxInt: -1,
		} {
			if val := impl.StoreRead(s, addr); val != want {
				t.Errorf("StoreRead(%v, %d) is %d, not %d", s, addr, val, want)
			}
		}
	}
}

func TestP30StoreAllIsEachAddress(t *testing.T) {
	for _, s := range okStores() {
		all := impl.StoreAll(s)
		if len(all) != 6 {
			t.Fatalf("StoreAll(%v) is %v", s, all)
		}
		for i, val := range all {
			if val != impl.StoreRead(s, i+1) {
				t.Fatalf("StoreAll(%v) is %v, but StoreRead of %d is %d", s, all, i+1, impl.StoreRead(s, i+1))
			}
		}
	}
	if all := impl.StoreAll(impl.StoreNew()); !slices.Equal(all, []int{0, 0, 0, 0, 0, 0}) {
		t.Errorf("StoreAll of a new store is %v", all)
	}
}

func TestP31StoreDirtyIsAscending(t *testing.T) {
	for _, s := range okStores() {
		dirty := impl.StoreDirty(s)
		for i := 1; i < len(dirty); i++ {
			if dirty[i-1] >= dirty[i] {
				t.Fatalf("StoreDirty(%v) is %v", s, dirty)
			}
		}
		for addr := 1; addr <= 6; addr++ {
			r, ok := impl.FindLast(s.Flash, addr)
			is := slices.Contains(dirty, addr)
			if is != (ok && r.Kind == impl.RecDirty) {
				t.Fatalf("StoreDirty(%v) is %v, the last record of %d %v", s, dirty, addr, r)
			}
			if !is && impl.StoreRead(s, addr) != s.Disk[addr-1] {
				t.Fatalf("%v: %d is not dirty, and the slow disk has another value", s, addr)
			}
		}
	}
}

func TestP31EachSetOfAddressesMayBeDirty(t *testing.T) {
	// The last records are written in each of some orders, so that an answer in that order shows.
	orders := [][]int{{1, 2, 3, 4, 5, 6}, {6, 5, 4, 3, 2, 1}, {4, 1, 6, 3, 5, 2}}
	for set := 0; set < 64; set++ {
		for _, order := range orders {
			rows := make([][]impl.Rec, 3)
			disk := []int{5, 5, 5, 5, 5, 5}
			var vals, dirty []int
			for n, addr := range order {
				r := cleanRec(n+1, addr, 5)
				if set>>(addr-1)&1 > 0 {
					r = dirtyRec(n+1, addr, addr)
				}
				rows[n/4] = append(rows[n/4], r)
			}
			for addr := 1; addr <= 6; addr++ {
				vals = append(vals, 5)
				if set>>(addr-1)&1 > 0 {
					dirty = append(dirty, addr)
					vals[addr-1] = addr
				}
			}
			mustRead(t, impl.Store{Flash: recBlocks(rows...), Disk: disk}, vals, dirty)
		}
	}
}

func TestP31NoneOneAndAllAreDirty(t *testing.T) {
	for name, c := range map[string]struct {
		s    impl.Store
		want []int
	}{
		"none, of a new store":    {impl.StoreNew(), nil},
		"none, of clean records":  {allClean(), nil},
		"all":                     {allDirty(), []int{1, 2, 3, 4, 5, 6}},
		"one, though others were": {impl.Store{Flash: recBlocks([]impl.Rec{dirtyRec(1, 2, 3), dirtyRec(2, 4, 4), cleanRec(3, 2, 3)}), Disk: []int{0, 3, 0, 0, 0, 0}}, []int{4}},
		"one, though it has what the slow disk has": {impl.Store{Flash: recBlocks([]impl.Rec{dirtyRec(1, 6, 3)}), Disk: []int{0, 0, 0, 0, 0, 3}}, []int{6}},
	} {
		if dirty := impl.StoreDirty(c.s); !slices.Equal(dirty, c.want) || !impl.StoreOk(c.s) {
			t.Errorf("%s: StoreDirty(%v) is %v, not %v", name, c.s, dirty, c.want)
		}
	}
}

// diskCase is blocks with records of one address, with which values on the slow disk they are ok, and what is read then.
type diskCase struct {
	name  string
	flash func(addr int) []impl.Block
	is    func(disk int) bool
	reads func(disk int) int
	dirty bool
}

// lastClean and lastDirty are what is wanted of an address whose last record, of value 4, is of that kind.
func lastClean(name string, flash func(addr int) []impl.Block) diskCase {
	return diskCase{name, flash, func(disk int) bool { return disk == 4 }, func(int) int { return 4 }, false}
}

func lastDirty(name string, flash func(addr int) []impl.Block) diskCase {
	return diskCase{name, flash, isVal, func(int) int { return 4 }, true}
}

func isVal(n int) bool {
	return n >= 0 && n <= 9
}

// diskCases is what is clean, and what the slow disk has, case by case.
func diskCases() []diskCase {
	one := func(r ...impl.Rec) []impl.Block { return recBlocks(r) }
	return []diskCase{
		{"no record", func(int) []impl.Block { return impl.FlashNew() }, isVal, func(disk int) int { return disk }, false},
		{"torn pages alone", func(int) []impl.Block { return seqBlocks([]int{-1, -1}) }, isVal, func(disk int) int { return disk }, false},
		{"a record of another one", func(a int) []impl.Block { return one(dirtyRec(1, 1+a%6, 4)) }, isVal, func(disk int) int { return disk }, false},
		lastClean("clean", func(a int) []impl.Block { return one(cleanRec(1, a, 4)) }),
		lastDirty("dirty", func(a int) []impl.Block { return one(dirtyRec(600, a, 4)) }),
		lastDirty("clean, dirty", func(a int) []impl.Block { return one(cleanRec(1, a, 7), dirtyRec(2, a, 4)) }),
		lastClean("dirty, clean", func(a int) []impl.Block { return one(dirtyRec(1, a, 7), cleanRec(2, a, 4)) }),
		lastClean("clean, clean", func(a int) []impl.Block { return one(cleanRec(1, a, 7), cleanRec(2, a, 4)) }),
		lastDirty("dirty, dirty", func(a int) []impl.Block { return one(dirtyRec(1, a, 7), dirtyRec(2, a, 4)) }),
		lastDirty("clean, dirty, of one value", func(a int) []impl.Block { return one(cleanRec(1, a, 4), dirtyRec(2, a, 4)) }),
		lastClean("dirty, clean, of one value", func(a int) []impl.Block { return one(dirtyRec(1, a, 4), cleanRec(2, a, 4)) }),
		lastDirty("clean with a lesser number behind", func(a int) []impl.Block { return one(dirtyRec(9, a, 4), cleanRec(8, a, 7)) }),
		lastClean("dirty with a lesser number behind", func(a int) []impl.Block { return one(cleanRec(9, a, 4), dirtyRec(8, a, 7)) }),
		lastDirty("clean, dirty on a block ahead", func(a int) []impl.Block {
			full := []impl.Rec{cleanRec(1, a, 1), cleanRec(2, a, 2), cleanRec(3, a, 3), cleanRec(4, a, 7)}
			return recBlocks([]impl.Rec{dirtyRec(5, a, 4)}, nil, full)
		}),
		lastClean("dirty, clean on a block ahead", func(a int) []impl.Block {
			full := []impl.Rec{dirtyRec(1, a, 1), dirtyRec(2, a, 2), dirtyRec(3, a, 3), dirtyRec(4, a, 7)}
			return recBlocks([]impl.Rec{cleanRec(5, a, 4)}, nil, nil, full)
		}),
		lastDirty("clean was torn", func(a int) []impl.Block {
			f := one(dirtyRec(1, a, 4), cleanRec(2, a, 4))
			f[0].Pages[1] = impl.Page{State: 2}
			return f
		}),
		lastClean("dirty was torn", func(a int) []impl.Block {
			f := one(cleanRec(1, a, 4), dirtyRec(2, a, 7))
			f[0].Pages[1] = impl.Page{State: 2}
			return f
		}),
	}
}

func TestWhatIsCleanAndWhatTheSlowDiskHas(t *testing.T) {
	for _, c := range diskCases() {
		for addr := 1; addr <= 6; addr++ {
			for disk := -2; disk <= 11; disk++ {
				name := fmt.Sprint(c.name, ", address ", addr, ", slow disk ", disk)
				s := impl.Store{Flash: c.flash(addr), Disk: []int{0, 0, 0, 0, 0, 0}}
				s.Disk[addr-1] = disk
				if !c.is(disk) {
					mustReadNothing(t, name, s)
					continue
				}
				dirty := slices.Contains(impl.StoreDirty(s), addr)
				if val := impl.StoreRead(s, addr); !impl.StoreOk(s) || val != c.reads(disk) || dirty != c.dirty {
					t.Fatalf("%s: %v: ok %v, StoreRead %d, dirty %v", name, s, impl.StoreOk(s), val, dirty)
				}
			}
		}
	}
}

func TestP32TheSlowDiskOfWhatIsDirtyAndNot(t *testing.T) {
	for _, s := range okStores() {
		vals, dirty := impl.StoreAll(s), impl.StoreDirty(s)
		for addr := 1; addr <= 6; addr++ {
			_, here := impl.FindLast(s.Flash, addr)
			for val := 0; val <= 9; val++ {
				other := withDisk(s, addr, val)
				want := slices.Clone(vals)
				if !here {
					want[addr-1] = val
				} else if !slices.Contains(dirty, addr) && val != vals[addr-1] {
					mustReadNothing(t, "a clean record, and another value", other)
					continue
				}
				if all := impl.StoreAll(other); !impl.StoreOk(other) || !slices.Equal(all, want) {
					t.Fatalf("%v with %d of %d: ok %v, StoreAll %v", s, val, addr, impl.StoreOk(other), all)
				}
			}
		}
	}
}

func TestP33StoreNew(t *testing.T) {
	s := impl.StoreNew()
	if !sameFlash(s.Flash, impl.FlashNew()) || len(s.Flash) != 4 || !slices.Equal(s.Disk, []int{0, 0, 0, 0, 0, 0}) {
		t.Fatal(s)
	}
	if !impl.StoreOk(s) || len(impl.StoreDirty(s)) != 0 {
		t.Errorf("%v: ok %v, StoreDirty %v", s, impl.StoreOk(s), impl.StoreDirty(s))
	}
	for b := range s.Flash {
		if s.Flash[b].Worn != 0 || impl.FlashClean(s.Flash, b) != 4 {
			t.Errorf("block %d: %v", b, s.Flash[b])
		}
	}
	mustRead(t, s, []int{0, 0, 0, 0, 0, 0}, nil)
}

func TestP34AllBlocksClean(t *testing.T) {
	next := steadyNumbers(17)
	for i := 0; i < 500; i++ {
		disk := []int{next(10), next(10), next(10), next(10), next(10), next(10)}
		f := wornBlocks(impl.FlashNew(), next(201), next(2)*200, next(3), 200-next(2))
		mustRead(t, impl.Store{Flash: f, Disk: disk}, disk, nil)
	}
	for _, s := range someStores() {
		for b := range s.Flash {
			s.Flash[b].Worn %= 200
			s.Flash, _ = impl.FlashWipe(s.Flash, b, false)
		}
		mustRead(t, s, s.Disk, nil)
	}
}

func TestP35WhatIsWrittenIsRead(t *testing.T) {
	tried := 0
	for _, s := range okStores() {
		_, open := impl.FindOpen(s.Flash)
		r, free := nextRec(s.Flash)
		if !open || !free {
			continue
		}
		for addr := 1; addr <= 6; addr++ {
			tried++
			r.Kind, r.Addr, r.Val = impl.RecDirty, addr, (tried*7)%10
			written := impl.Store{Flash: writeNext(t, s.Flash, r, false), Disk: s.Disk}
			want := wantValues(s)
			want[addr-1] = r.Val
			dirty := append(wantDirty(s), addr)
			slices.Sort(dirty)
			mustRead(t, written, want, slices.Compact(dirty))
			torn := impl.Store{Flash: writeNext(t, s.Flash, r, true), Disk: s.Disk}
			mustRead(t, torn, wantValues(s), wantDirty(s))
		}
	}
	if tried < 1000 {
		t.Errorf("just %d were written", tried)
	}
}

func TestP35TheLastNumberIsRead(t *testing.T) {
	s := impl.Store{Flash: recBlocks([]impl.Rec{cleanRec(599, 6, 2)}), Disk: []int{1, 1, 1, 1, 1, 2}}
	s.Flash = writeNext(t, s.Flash, dirtyRec(600, 6, 9), false)
	mustRead(t, s, []int{1, 1, 1, 1, 1, 9}, []int{6})
}

func TestStoreOkOfBlocksThatAreNotInOrder(t *testing.T) {
	for name, f := range map[string][]impl.Block{
		"two overlap":                     seqBlocks([]int{1, 2, 3, 5}, []int{4, 6, 7, 8}),
		"one is within another":           seqBlocks([]int{1, 9, 2, 8}, nil, []int{3, 4, 5, 6}),
		"the first and the last overlap":  seqBlocks([]int{1, 2, 3, 5}, nil, nil, []int{4, -1, -1, -1}),
		"two were begun":                  seqBlocks([]int{1, 2, 3}, []int{4}),
		"two were begun, with torn pages": seqBlocks(nil, []int{-1, -1}, []int{-1}),
		"begun, and another is greater":   seqBlocks([]int{1, 2, 3}, []int{4, 5, 6, 7}),
		"begun, and one ahead is greater": seqBlocks([]int{4, 5, 6, 7}, nil, nil, []int{1, 2, 3}),
	} {
		if !impl.FlashOk(f) {
			t.Fatalf("%s: the blocks are not ok", name)
		}
		mustReadNothing(t, name, impl.Store{Flash: f, Disk: someDisk(f, steadyNumbers(1))})
	}
}

func TestStoreOkOfBlocksThatAreNotOk(t *testing.T) {
	mustReadNothing(t, "nothing", impl.Store{})
	mustReadNothing(t, "empty lists", impl.Store{Flash: []impl.Block{}, Disk: []int{}})
	for _, s := range someStores() {
		for _, w := range wrongFlashes(s.Flash) {
			mustReadNothing(t, w.name, impl.Store{Flash: w.f, Disk: s.Disk})
		}
	}
}

func TestStoreOkOfASlowDiskOfAnotherSize(t *testing.T) {
	for _, s := range someStores() {
		mustReadNothing(t, "nil", impl.Store{Flash: s.Flash})
		for size := 0; size <= 13; size++ {
			disk := append(slices.Clone(s.Disk), s.Disk...)
			disk = append(disk, 0)[:size]
			if size == 6 {
				mustRead(t, impl.Store{Flash: s.Flash, Disk: disk}, wantValues(s), wantDirty(s))
				continue
			}
			mustReadNothing(t, fmt.Sprint(size, " numbers"), impl.Store{Flash: s.Flash, Disk: disk})
		}
	}
}

func TestStoreOkOfNumbersThatAreNoValues(t *testing.T) {
	for _, s := range someStores() {
		for addr := 1; addr <= 6; addr++ {
			for _, val := range []int{-1, 10, -9, 256, 1 << 32, math.MinInt, math.MaxInt} {
				mustReadNothing(t, fmt.Sprint(val, " of ", addr), withDisk(s, addr, val))
			}
		}
	}
	for addr := 1; addr <= 6; addr++ {
		for _, val := range []int{0, 9} {
			// Of a dirty address the slow disk may have either, and it is not read.
			mustRead(t, withDisk(allDirty(), addr, val), wantValues(allDirty()), []int{1, 2, 3, 4, 5, 6})
			want := []int{5, 5, 5, 5, 5, 5}
			want[addr-1] = val
			mustRead(t, impl.Store{Flash: impl.FlashNew(), Disk: slices.Clone(want)}, want, nil)
		}
	}
}

// roomyStore is the store in lists with spare room, which is filled with what nobody may touch.
func roomyStore(s impl.Store) impl.Store {
	disk := append(make([]int, 0, len(s.Disk)+3), s.Disk...)
	return impl.Store{Flash: roomy(s.Flash), Disk: append(disk, 77, 77, 77)[:len(s.Disk)]}
}

// wholeStore is the store with all that is in the spare room.
func wholeStore(s impl.Store) impl.Store {
	return impl.Store{Flash: wholeOf(s.Flash), Disk: slices.Clone(s.Disk[:cap(s.Disk)])}
}

// mustShareNoNumber says that no two lists of numbers share any place, spare room included.
func mustShareNoNumber(t *testing.T, what string, lists ...[]int) {
	t.Helper()
	places := map[*int]bool{}
	for _, list := range lists {
		whole := list[:cap(list)]
		for i := range whole {
			if places[&whole[i]] {
				t.Fatalf("%s: two lists share a place", what)
			}
			places[&whole[i]] = true
		}
	}
}

func TestStoresStayAndAnswersAreNewMemory(t *testing.T) {
	stores := someStores()
	for _, w := range wrongFlashes(allDirty().Flash) {
		stores = append(stores, impl.Store{Flash: w.f, Disk: allDirty().Disk})
	}
	stores = append(stores, withDisk(allClean(), 6, 9), withDisk(allDirty(), 1, -1))
	for _, s := range stores {
		given := roomyStore(s)
		was := wholeStore(given)
		for _, addr := range append(noAddrs(), 1, 2, 3, 4, 5, 6) {
			impl.StoreRead(given, addr)
		}
		impl.StoreOk(given)
		all, again := impl.StoreAll(given), impl.StoreAll(given)
		dirty, more := impl.StoreDirty(given), impl.StoreDirty(given)
		mustShareNoNumber(t, "StoreAll and StoreDirty", given.Disk, all, again, dirty, more)
		now := wholeStore(given)
		if !sameFlash(now.Flash, was.Flash) || !slices.Equal(now.Disk, was.Disk) {
			t.Fatalf("%v became %v", was, now)
		}
	}
}

func TestStoreNewIsNewMemory(t *testing.T) {
	a, b := impl.StoreNew(), impl.StoreNew()
	mustShareNothing(t, "StoreNew", a.Flash, b.Flash, impl.FlashNew())
	mustShareNoNumber(t, "StoreNew", a.Disk, b.Disk, impl.StoreAll(a), impl.StoreAll(b))
	a.Disk[0], a.Flash[0].Worn = 9, 9
	a.Flash[1].Pages[0] = impl.Page{State: 2}
	mustRead(t, impl.StoreNew(), []int{0, 0, 0, 0, 0, 0}, nil)
	if !sameFlash(b.Flash, impl.FlashNew()) || b.Disk[0] != 0 {
		t.Errorf("%v was changed with another new store", b)
	}
}

func TestSpareRoomOfStoresIsNotRead(t *testing.T) {
	for _, s := range someStores() {
		mustRead(t, roomyStore(s), wantValues(s), wantDirty(s))
		five := copyStore(s)
		five.Disk = five.Disk[:5]
		mustReadNothing(t, "the last number in the spare room", five)
		three := copyStore(s)
		three.Flash = three.Flash[:3]
		mustReadNothing(t, "the last block in the spare room", three)
	}
}

func TestStoresAreReadAlikeEachTime(t *testing.T) {
	// A map is gone through in another order each time: no answer may hang on it.
	for _, s := range someStores() {
		vals, dirty := wantValues(s), wantDirty(s)
		for i := 0; i < 20; i++ {
			mustRead(t, s, vals, dirty)
		}
	}
	wrong := withDisk(allClean(), 6, 9)
	for i := 0; i < 200; i++ {
		mustRead(t, allDirty(), []int{4, 9, 3, 7, 1, 0}, []int{1, 2, 3, 4, 5, 6})
		mustReadNothing(t, "one of six clean ones differs", wrong)
	}
}

func TestLongRunsOfStoresAreRead(t *testing.T) {
	for seed := uint32(1); seed <= 6; seed++ {
		next := steadyNumbers(seed)
		s, vals := impl.StoreNew(), make([]int, 6)
		for impl.FindNext(s.Flash) <= 600 {
			if _, ok := impl.FindOpen(s.Flash); !ok {
				old := impl.FindOld(s.Flash)
				for _, addr := range impl.StoreDirty(s) {
					s.Disk[addr-1] = vals[addr-1]
				}
				s.Flash, _ = impl.FlashWipe(s.Flash, old, next(6) == 0)
				mustRead(t, s, vals, wantDirty(s))
				continue
			}
			r := impl.Rec{Kind: 1, Seq: impl.FindNext(s.Flash), Addr: 1 + next(6), Val: next(10)}
			if next(3) == 0 {
				r.Kind, r.Val = 2, vals[r.Addr-1]
				s.Disk[r.Addr-1] = r.Val
			}
			torn := next(5) == 0
			s.Flash = writeNext(t, s.Flash, r, torn)
			if !torn {
				vals[r.Addr-1] = r.Val
			}
			mustRead(t, s, vals, wantDirty(s))
		}
	}
}
