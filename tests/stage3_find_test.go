package tests

import (
	"fmt"
	"math"
	"slices"
	"testing"

	"loop.example/buttery/impl"
)

// noAddrs is numbers that no address has: one less than the first, one more than the last, and far ones.
func noAddrs() []int {
	return []int{0, 7, -1, -6, 8, 256, 1<<32 + 1, math.MinInt, math.MaxInt}
}

// noPages is numbers that no page of a block has.
func noPages() []int {
	return []int{-1, 4, -4, 5, 256, 1 << 32, math.MinInt, math.MaxInt}
}

// seqBlocks is blocks of pages by the numbers of their records: 0 is a clean page, -1 a torn one; short rows end clean.
func seqBlocks(rows ...[]int) []impl.Block {
	f := make([]impl.Block, 4)
	for b := range f {
		f[b].Pages = make([]impl.Page, 4)
		if b >= len(rows) {
			continue
		}
		for i, seq := range rows[b] {
			if seq > 0 {
				f[b].Pages[i] = impl.Page{State: 1, Rec: seqRec(seq)}
			} else if seq < 0 {
				f[b].Pages[i] = impl.Page{State: 2}
			}
		}
	}
	return f
}

// seqRec is a record of that number, whose other parts hang on the number.
func seqRec(seq int) impl.Rec {
	return impl.Rec{Kind: 1 + seq%2, Seq: seq, Addr: 1 + seq*5%6, Val: seq * 7 % 10}
}

// wornBlocks is the blocks, each worn so many times.
func wornBlocks(f []impl.Block, worn ...int) []impl.Block {
	for b := range f {
		f[b].Worn = worn[b]
	}
	return f
}

// orderedFlash is blocks in order: full or clean ones, at most one that was begun, with the greatest numbers or none.
func orderedFlash(next func(int) int) []impl.Block {
	order := [][]int{{0, 1, 2, 3}, {3, 2, 1, 0}, {1, 3, 0, 2}, {2, 0, 3, 1}, {1, 0, 3, 2}, {2, 3, 0, 1}}[next(6)]
	cleanOneIn, tornOneIn := 1+next(6), 2+next(6)
	seq := next(500)
	var all []int
	rows := make([][]int, 4)
	for n, b := range order {
		used := 4
		if next(cleanOneIn) == 0 && cleanOneIn < 6 {
			used = 0
		}
		if n == 3 && next(3) > 0 {
			used = 1 + next(3)
		}
		row := []int{}
		for i := 0; i < used; i++ {
			seq += 1 + next(3)*next(3)
			all = append(all, seq)
			row = append(row, seq)
		}
		if next(2) == 0 {
			slices.Reverse(row)
		}
		rows[b] = row
	}
	lift := 0
	if len(all) > 0 && next(8) == 0 {
		lift = 600 - seq
	}
	for _, row := range rows {
		for i := range row {
			row[i] += lift
			if next(tornOneIn) == 0 {
				row[i] = -1
			}
		}
	}
	return wornBlocks(seqBlocks(rows...), next(4), next(3)+198, next(201), next(4))
}

// tornBegun is blocks of which one was begun, of whose pages each that is not clean is torn, wherever that block stands.
func tornBegun() [][]impl.Block {
	var all [][]impl.Block
	for b := 0; b < 4; b++ {
		for used := 1; used <= 3; used++ {
			rows := [][]int{{1, 2, 3, 4}, {9, 10, 11, 12}, {5, 6, 7, 8}, {13, 14, 15, 16}}
			rows[b] = slices.Repeat([]int{-1}, used)
			all = append(all, seqBlocks(rows...))
		}
	}
	return all
}

// orderedFlashes is blocks that the document calls in order, at the edges and of all sorts.
func orderedFlashes() [][]impl.Block {
	all := [][]impl.Block{
		impl.FlashNew(),
		seqBlocks([]int{-1, -1, -1, -1}, []int{-1, -1, -1, -1}, []int{-1, -1, -1, -1}, []int{-1, -1, -1, -1}),
		seqBlocks([]int{1, 2, 3, 4}, []int{5, 6, 7, 8}, []int{9, 10, 11, 12}, []int{13, 14, 15, 16}),
		seqBlocks([]int{13, 14, 15, 16}, []int{9, 10, 11, 12}, []int{5, 6, 7, 8}, []int{1, 2, 3, 4}),
		seqBlocks([]int{585, 586, 587, 588}, []int{589, 590, 591, 592}, []int{593, 594, 595, 596}, []int{597, 598, 599, 600}),
		seqBlocks([]int{-1, -1, -1, -1}, []int{9, 10, 11, 12}, []int{-1, -1, -1, -1}, []int{1, 2, 3, 4}),
	}
	all = append(all, tornBegun()...)
	next := steadyNumbers(3)
	for i := 0; i < 1500; i++ {
		all = append(all, orderedFlash(next))
	}
	return all
}

// mixedFlashes is ok blocks whose few records have numbers near to each other, in order or not.
func mixedFlashes() [][]impl.Block {
	next := steadyNumbers(7)
	var all [][]impl.Block
	for i := 0; i < 6000; i++ {
		seqs := []int{1, 2, 3, 4, 5, 6, 7, 8, 9, 10, 11, 12, 13, 14, 15, 16}
		for n := 0; n < next(4); n++ {
			a, b := next(16), next(16)
			seqs[a], seqs[b] = seqs[b], seqs[a]
		}
		rows := make([][]int, 4)
		for b := range rows {
			rows[b] = seqs[b*4 : b*4+4]
			if next(2) == 0 {
				rows[b] = rows[b][:next(5)]
			}
			for n := range rows[b] {
				if next(5) == 0 {
					rows[b][n] = -1
				}
			}
		}
		turn := next(4)
		rows = append(rows[turn:], rows[:turn]...)
		all = append(all, wornBlocks(seqBlocks(rows...), next(3), next(3), next(3), next(3)))
	}
	return all
}

// allFlashes is ok blocks of all these sorts.
func allFlashes() [][]impl.Block {
	return slices.Concat(okFlashes(), orderedFlashes(), mixedFlashes())
}

// seqsOf is the numbers of the records of a block.
func seqsOf(b impl.Block) []int {
	var seqs []int
	for _, p := range b.Pages {
		if p.State == 1 {
			seqs = append(seqs, p.Rec.Seq)
		}
	}
	return seqs
}

// greatestSeq is the greatest of numbers; 0, if there are none.
func greatestSeq(seqs []int) int {
	return slices.Max(append([]int{0}, seqs...))
}

// allSeqs is the numbers of all records.
func allSeqs(f []impl.Block) []int {
	var seqs []int
	for _, b := range f {
		seqs = append(seqs, seqsOf(b)...)
	}
	return seqs
}

// recsOfAddr is the records of an address on a block.
func recsOfAddr(b impl.Block, addr int) []impl.Rec {
	var recs []impl.Rec
	for _, p := range b.Pages {
		if p.State == 1 && p.Rec.Addr == addr {
			recs = append(recs, p.Rec)
		}
	}
	return recs
}

// wantLast is what the document asks of FindLast of ok blocks.
func wantLast(f []impl.Block, addr int) (impl.Rec, bool) {
	var recs []impl.Rec
	for _, b := range f {
		recs = append(recs, recsOfAddr(b, addr)...)
	}
	if len(recs) == 0 {
		return impl.Rec{}, false
	}
	return slices.MaxFunc(recs, func(a impl.Rec, b impl.Rec) int { return a.Seq - b.Seq }), true
}

// wasBegun says whether some pages of a block are clean, but not all.
func wasBegun(b impl.Block) bool {
	return cleanOf(b) > 0 && cleanOf(b) < 4
}

// wantOpen is what the document asks of FindOpen of ok blocks.
func wantOpen(f []impl.Block) (int, bool) {
	if b := slices.IndexFunc(f, wasBegun); b >= 0 {
		return b, true
	}
	for worn := 0; worn <= 200; worn++ {
		for b := range f {
			if cleanOf(f[b]) == 4 && f[b].Worn == worn {
				return b, true
			}
		}
	}
	return 0, false
}

// wantOld is what the document asks of FindOld of ok blocks.
func wantOld(f []impl.Block) int {
	for most := 0; most <= 600; most++ {
		for b := range f {
			if greatestSeq(seqsOf(f[b])) == most {
				return b
			}
		}
	}
	return -1
}

// allLess says whether each of some numbers is less than each of others.
func allLess(some []int, others []int) bool {
	for _, a := range some {
		for _, b := range others {
			if a >= b {
				return false
			}
		}
	}
	return true
}

// wantOrder is what the document asks of FindOrder of ok blocks.
func wantOrder(f []impl.Block) bool {
	begun := 0
	for b := range f {
		if wasBegun(f[b]) {
			begun++
		}
		for c := range f {
			x, y := seqsOf(f[b]), seqsOf(f[c])
			if b != c && len(x) > 0 && len(y) > 0 && !allLess(x, y) && !allLess(y, x) {
				return false
			}
			if b != c && wasBegun(f[b]) && len(x) > 0 && greatestSeq(y) > greatestSeq(x) {
				return false
			}
		}
	}
	return begun <= 1
}

// mustLast holds FindLast against what is wanted.
func mustLast(t *testing.T, f []impl.Block, addr int, want impl.Rec, wantOk bool) {
	t.Helper()
	if r, ok := impl.FindLast(f, addr); r != want || ok != wantOk {
		t.Fatalf("FindLast(%v, %d) is %v %v, not %v %v", f, addr, r, ok, want, wantOk)
	}
}

// mustOpen holds FindOpen against what is wanted.
func mustOpen(t *testing.T, f []impl.Block, want int, wantOk bool) {
	t.Helper()
	if b, ok := impl.FindOpen(f); b != want || ok != wantOk {
		t.Fatalf("FindOpen(%v) is %d %v, not %d %v", f, b, ok, want, wantOk)
	}
}

// mustOrder holds FindOrder against what is wanted.
func mustOrder(t *testing.T, f []impl.Block, want bool) {
	t.Helper()
	if impl.FindOrder(f) != want {
		t.Fatalf("FindOrder(%v) is not %v", f, want)
	}
}

// mustFind holds all of chapter 3 of ok blocks against what is wanted.
func mustFind(t *testing.T, f []impl.Block) {
	t.Helper()
	for addr := 0; addr <= 7; addr++ {
		want, ok := wantLast(f, addr)
		mustLast(t, f, addr, want, ok)
	}
	for b := range f {
		for i, p := range f[b].Pages {
			last, _ := wantLast(f, p.Rec.Addr)
			if want := p.State == 1 && p.Rec == last; impl.FindLive(f, b, i) != want {
				t.Fatalf("FindLive(%v, %d, %d) is not %v", f, b, i, want)
			}
		}
	}
	if n := impl.FindNext(f); n != greatestSeq(allSeqs(f))+1 {
		t.Fatalf("FindNext(%v) is %d", f, n)
	}
	open, ok := wantOpen(f)
	mustOpen(t, f, open, ok)
	if b := impl.FindOld(f); b != wantOld(f) {
		t.Fatalf("FindOld(%v) is %d, not %d", f, b, wantOld(f))
	}
	mustOrder(t, f, wantOrder(f))
}

// nextRec is a record of FindNext; false, if that is used up.
func nextRec(f []impl.Block) (impl.Rec, bool) {
	r := seqRec(impl.FindNext(f))
	return r, r.Seq <= 600
}

// writeNext is FlashWrite of a record of FindNext on FindOpen.
func writeNext(t *testing.T, f []impl.Block, r impl.Rec, torn bool) []impl.Block {
	t.Helper()
	open, _ := impl.FindOpen(f)
	got, ok := impl.FlashWrite(f, open, r, torn)
	if !ok {
		t.Fatalf("%v cannot be written on block %d of %v", r, open, f)
	}
	return got
}

func TestFindingIsAsTheDocumentSays(t *testing.T) {
	ordered, others := 0, 0
	for _, f := range allFlashes() {
		mustFind(t, f)
		if wantOrder(f) {
			ordered++
		} else {
			others++
		}
	}
	if ordered < 1500 || others < 1500 {
		t.Errorf("%d are in order, %d are not: too few of one sort", ordered, others)
	}
	for _, f := range orderedFlashes() {
		mustOrder(t, f, true)
	}
}

func TestFindingWithoutAnyRecord(t *testing.T) {
	gone := []int{-1, -1, -1, -1}
	for _, f := range [][]impl.Block{
		impl.FlashNew(),
		wornBlocks(impl.FlashNew(), 200, 3, 0, 1),
		seqBlocks(gone, gone, gone, gone),
		seqBlocks(gone, nil, gone, gone),
		seqBlocks(nil, gone, []int{-1, -1}, gone),
		seqBlocks(nil, nil, nil, []int{-1}),
		seqBlocks([]int{-1, -1, -1}, []int{-1}, []int{-1}, []int{-1}),
	} {
		for _, addr := range append(noAddrs(), 1, 2, 3, 4, 5, 6) {
			mustLast(t, f, addr, impl.Rec{}, false)
		}
		for b := range f {
			for i := range f[b].Pages {
				if impl.FindLive(f, b, i) {
					t.Errorf("FindLive(%v, %d, %d)", f, b, i)
				}
			}
		}
		if impl.FindNext(f) != 1 || impl.FindOld(f) != 0 {
			t.Errorf("%v: FindNext %d, FindOld %d", f, impl.FindNext(f), impl.FindOld(f))
		}
	}
}

func TestP17FindLastIsThereAndNoneIsGreater(t *testing.T) {
	for _, f := range allFlashes() {
		for addr := 1; addr <= 6; addr++ {
			r, ok := impl.FindLast(f, addr)
			there := false
			for _, b := range f {
				for _, other := range recsOfAddr(b, addr) {
					there = there || other == r
					if !ok || other.Seq > r.Seq {
						t.Fatalf("FindLast(%v, %d) is %v %v, but there is %v", f, addr, r, ok, other)
					}
				}
			}
			if ok != there {
				t.Fatalf("FindLast(%v, %d) is %v %v, which is there: %v", f, addr, r, ok, there)
			}
		}
		for _, addr := range noAddrs() {
			mustLast(t, f, addr, impl.Rec{}, false)
		}
	}
}

func TestP17FindLastGoesByTheNumberAndNotThePlace(t *testing.T) {
	one := impl.Rec{Kind: 1, Seq: 600, Addr: 6, Val: 0}
	two := impl.Rec{Kind: 2, Seq: 599, Addr: 6, Val: 9}
	low := impl.Rec{Kind: 2, Seq: 1, Addr: 1, Val: 0}
	for a := 0; a < 16; a++ {
		for b := 0; b < 16; b++ {
			if a == b {
				continue
			}
			gone := []int{-1, -1, -1, -1}
			f := seqBlocks(gone, gone, gone, gone)
			f[a/4].Pages[a%4] = impl.Page{State: 1, Rec: one}
			f[b/4].Pages[b%4] = impl.Page{State: 1, Rec: two}
			mustLast(t, f, 6, one, true)
			mustLast(t, f, 1, impl.Rec{}, false)
			f[b/4].Pages[b%4].Rec = low
			mustLast(t, f, 6, one, true)
			mustLast(t, f, 1, low, true)
		}
	}
}

func TestP18FindLiveIsFindLastOfItsAddress(t *testing.T) {
	for _, f := range allFlashes() {
		live := map[int]int{}
		for b := range f {
			for i, p := range f[b].Pages {
				last, ok := impl.FindLast(f, p.Rec.Addr)
				if want := ok && p.State == 1 && p.Rec == last; impl.FindLive(f, b, i) != want {
					t.Fatalf("FindLive(%v, %d, %d) is not %v", f, b, i, want)
				}
				if impl.FindLive(f, b, i) {
					live[p.Rec.Addr]++
				}
			}
		}
		for addr := 1; addr <= 6; addr++ {
			if _, ok := impl.FindLast(f, addr); ok != (live[addr] == 1) {
				t.Fatalf("%v: %d pages live of address %d", f, live[addr], addr)
			}
		}
	}
}

func TestP18FindLiveOfNoPlaceIsFalse(t *testing.T) {
	full := seqBlocks([]int{1, 2, 3, 4}, []int{5, 6, 7, 8}, []int{9, 10, 11, 12}, []int{13, 14, 15, 16})
	for _, f := range append(someFlashes(), full) {
		for _, page := range append(noPages(), 0, 1, 2, 3) {
			for _, block := range noBlocks() {
				if impl.FindLive(f, block, page) {
					t.Fatalf("FindLive(%v, %d, %d)", f, block, page)
				}
			}
		}
		for _, page := range noPages() {
			for b := range f {
				if impl.FindLive(f, b, page) {
					t.Fatalf("FindLive(%v, %d, %d)", f, b, page)
				}
			}
		}
	}
}

func TestP18TheFirstAndTheLastPlaceMayLive(t *testing.T) {
	for b := 0; b < 4; b++ {
		for i := 0; i < 4; i++ {
			f := seqBlocks([]int{-1, -1, -1, -1}, []int{-1, -1, -1, -1}, []int{-1, -1, -1, -1}, []int{-1, -1, -1, -1})
			f[b].Pages[i] = impl.Page{State: 1, Rec: impl.Rec{Kind: 1, Seq: 1, Addr: 1 + 5*(b%2), Val: 0}}
			for c := 0; c < 4; c++ {
				for j := 0; j < 4; j++ {
					if impl.FindLive(f, c, j) != (b == c && i == j) {
						t.Errorf("FindLive(%v, %d, %d)", f, c, j)
					}
				}
			}
		}
	}
}

func TestP19FindNextIsOneMoreThanTheGreatest(t *testing.T) {
	for _, f := range allFlashes() {
		next := impl.FindNext(f)
		seqs := allSeqs(f)
		for _, seq := range seqs {
			if next <= seq {
				t.Fatalf("FindNext(%v) is %d", f, next)
			}
		}
		if next != 1 && !slices.Contains(seqs, next-1) {
			t.Fatalf("FindNext(%v) is %d, and no record is %d", f, next, next-1)
		}
		r, ok := nextRec(f)
		for b := range f {
			if _, written := impl.FlashWrite(f, b, r, false); written != (ok && cleanOf(f[b]) > 0) {
				t.Fatalf("FlashWrite(%v, %d, %v) is %v", f, b, r, written)
			}
		}
	}
}

func TestP19BehindSeqMaxNoRecordIsOk(t *testing.T) {
	for _, f := range [][]impl.Block{
		seqBlocks([]int{600}),
		seqBlocks(nil, nil, nil, []int{599, 600}),
		seqBlocks([]int{1, 600, 2, 3}, []int{4}),
	} {
		if n := impl.FindNext(f); n != 601 {
			t.Fatalf("FindNext(%v) is %d", f, n)
		}
		r := impl.Rec{Kind: 1, Seq: 601, Addr: 1, Val: 1}
		got, ok := impl.FlashWrite(f, 2, r, false)
		mustFlash(t, "FlashWrite behind the last number", got, ok, nil, false)
		if impl.RecOk(r) {
			t.Error("a record behind the last number is ok")
		}
	}
	if n := impl.FindNext(seqBlocks([]int{599})); n != 600 {
		t.Errorf("FindNext behind 599 is %d", n)
	}
}

func TestP20FindOpen(t *testing.T) {
	gone := []int{-1, -1, -1, -1}
	full := []int{1, 2, 3, 4}
	for _, c := range []struct {
		name string
		f    []impl.Block
		want int
		ok   bool
	}{
		{"new", impl.FlashNew(), 0, true},
		{"the least worn", wornBlocks(impl.FlashNew(), 3, 2, 1, 2), 2, true},
		{"the least worn is the last", wornBlocks(impl.FlashNew(), 200, 200, 200, 199), 3, true},
		{"two of the least worn", wornBlocks(impl.FlashNew(), 2, 1, 2, 1), 1, true},
		{"all worn out", wornBlocks(impl.FlashNew(), 200, 200, 200, 200), 0, true},
		{"the least worn is full", wornBlocks(seqBlocks(full), 0, 5, 4, 4), 2, true},
		{"the least worn is torn", wornBlocks(seqBlocks(nil, gone), 6, 0, 4, 5), 2, true},
		{"one is clean, and worn out", wornBlocks(seqBlocks(full, gone, gone, nil), 0, 0, 0, 200), 3, true},
		{"begun next to a clean one that is less worn", wornBlocks(seqBlocks(nil, []int{1}), 0, 9, 0, 0), 1, true},
		{"begun ahead of a clean one that is less worn", wornBlocks(seqBlocks([]int{7}, nil, full), 9, 0, 0, 0), 0, true},
		{"begun as the last one, and worn out", wornBlocks(seqBlocks(nil, nil, nil, []int{1, 2, 3}), 0, 0, 0, 200), 3, true},
		{"begun with torn pages alone", seqBlocks(nil, full, []int{-1, -1}), 2, true},
		{"two were begun", wornBlocks(seqBlocks(full, []int{6, 7}, nil, []int{5}), 0, 8, 0, 0), 1, true},
		{"two were begun, the second torn", seqBlocks(nil, nil, []int{9}, []int{-1, -1, -1}), 2, true},
		{"full", seqBlocks(full, []int{5, 6, 7, 8}, gone, []int{-1, 9, -1, 10}), 0, false},
		{"torn", seqBlocks(gone, gone, gone, gone), 0, false},
	} {
		t.Run(c.name, func(t *testing.T) { mustOpen(t, c.f, c.want, c.ok) })
	}
}

func TestP20EachBlockMayBeOpen(t *testing.T) {
	for _, f := range allFlashes() {
		want, ok := wantOpen(f)
		mustOpen(t, f, want, ok)
	}
	for b := 0; b < 4; b++ {
		for used := 0; used <= 4; used++ {
			gone := []int{-1, -1, -1, -1}
			rows := [][]int{gone, gone, gone, gone}
			rows[b] = []int{1, 2, 3, 4}[:used]
			want := b
			if used == 4 {
				want = 0
			}
			mustOpen(t, seqBlocks(rows...), want, used < 4)
		}
	}
}

func TestP21FindOld(t *testing.T) {
	gone := []int{-1, -1, -1, -1}
	for _, c := range []struct {
		name string
		f    []impl.Block
		want int
	}{
		{"one without records among others", seqBlocks([]int{1, 2}, []int{3, 4}, nil, []int{5, 6}), 2},
		{"one with torn pages alone among others", seqBlocks([]int{1, 2}, []int{3, 4}, []int{5, 6}, gone), 3},
		{"two without records", seqBlocks([]int{1, 2}, nil, []int{3, 4}, nil), 1},
		{"torn ahead of clean", seqBlocks([]int{1, 2}, gone, nil, nil), 1},
		{"clean ahead of torn", seqBlocks([]int{1, 2}, nil, gone, gone), 1},
		{"the first", seqBlocks([]int{1, 2, 3, 4}, []int{5, 6, 7, 8}, []int{9, 10, 11, 12}, []int{13, 14, 15, 16}), 0},
		{"the last", seqBlocks([]int{13, 14, 15, 16}, []int{9, 10, 11, 12}, []int{5, 6, 7, 8}, []int{1, 2, 3, 4}), 3},
		{"the greatest counts, not the least", seqBlocks([]int{1, 600}, []int{2, 599}, []int{597, 598}, []int{4, 596}), 3},
		{"the greatest counts, not the last", seqBlocks([]int{9, 1}, []int{3, 8}, []int{10, 2}, []int{11, 4}), 1},
		{"torn pages do not count", seqBlocks([]int{-1, -1, 7, -1}, []int{8, 9}, []int{-1, 6, -1, -1}, []int{10}), 2},
		{"wear does not count", wornBlocks(seqBlocks([]int{4}, []int{1}, []int{3}, []int{2}), 0, 200, 0, 0), 1},
	} {
		if b := impl.FindOld(c.f); b != c.want {
			t.Errorf("%s: FindOld(%v) is %d, not %d", c.name, c.f, b, c.want)
		}
	}
	for _, f := range allFlashes() {
		if b := impl.FindOld(f); b != wantOld(f) {
			t.Fatalf("FindOld(%v) is %d, not %d", f, b, wantOld(f))
		}
	}
}

func TestFindOrder(t *testing.T) {
	gone := []int{-1, -1, -1, -1}
	for _, c := range []struct {
		name string
		f    []impl.Block
		want bool
	}{
		{"two overlap", seqBlocks([]int{1, 2, 3, 5}, []int{4, 6, 7, 8}), false},
		{"one is within another", seqBlocks([]int{1, 9, 2, 8}, nil, []int{3, 4, 5, 6}), false},
		{"one number is within another block", seqBlocks([]int{1, 2, 3, 5}, nil, nil, []int{4, -1, -1, -1}), false},
		{"the first and the last overlap", seqBlocks([]int{9, 10, 11, 13}, []int{1, 2, 3, 4}, []int{5, 6, 7, 8}, []int{12, 14, 15, 16}), false},
		{"the last two overlap", seqBlocks([]int{1, 2, 3, 4}, gone, []int{5, 6, 7, 9}, []int{8, 10, 11, 12}), false},
		{"a lesser number behind a greater one overlaps", seqBlocks([]int{3, 1, 4, 5}, []int{2, -1, -1, -1}), false},
		{"they touch", seqBlocks([]int{1, 2, 3, 4}, []int{5, 6, 7, 8}), true},
		{"the other way about", seqBlocks([]int{5, 6, 7, 8}, []int{1, 2, 3, 4}), true},
		{"within a block any order", seqBlocks([]int{4, 1, 3, 2}, nil, []int{8, 7, 6, 5}, []int{10, 9}), true},
		{"the limits", seqBlocks([]int{600}, nil, nil, []int{1, 2, 3, 599}), true},
		{"two were begun", seqBlocks([]int{1, 2, 3}, []int{4}), false},
		{"two were begun, one with torn pages alone", seqBlocks([]int{1, 2, 3}, nil, nil, []int{-1}), false},
		{"two were begun, both with torn pages alone", seqBlocks(nil, []int{-1, -1}, []int{-1}), false},
		{"all were begun", seqBlocks([]int{1}, []int{2}, []int{3}, []int{4}), false},
		{"begun, and another has a greater number", seqBlocks([]int{1, 2, 3}, []int{4, 5, 6, 7}), false},
		{"begun, and another one ahead has a greater number", seqBlocks([]int{4, 5, 6, 7}, nil, nil, []int{1, 2, 3}), false},
		{"begun, and one is greater, one is less", seqBlocks([]int{1, 2, 3, 4}, []int{5, -1}, []int{-1, -1, -1, 6}), false},
		{"begun, and has the greatest", seqBlocks([]int{1, 2, 3, 4}, []int{5, -1, 6}), true},
		{"begun, and is the first, and has the greatest", seqBlocks([]int{9}, []int{1, 2, 3, 4}, gone, []int{5, 6, 7, 8}), true},
		{"begun with torn pages alone", seqBlocks([]int{1, 2, 3, 4}, []int{-1, -1}, []int{5, 6, 7, 8}), true},
		{"begun, alone, with one torn page", seqBlocks(nil, nil, nil, []int{-1}), true},
		{"all torn", seqBlocks(gone, gone, gone, gone), true},
		{"new", impl.FlashNew(), true},
		{"worn unlike", wornBlocks(seqBlocks([]int{5}, []int{1, 2, 3, 4}), 200, 0, 7, 100), true},
	} {
		t.Run(c.name, func(t *testing.T) { mustOrder(t, c.f, c.want) })
	}
}

func TestP22NothingComesBack(t *testing.T) {
	for _, f := range orderedFlashes() {
		old := impl.FindOld(f)
		wiped := copyFlash(f)
		wiped[old] = impl.Block{Pages: make([]impl.Page, 4), Worn: f[old].Worn}
		for b := range f {
			if b != old && !allLess(seqsOf(f[old]), seqsOf(f[b])) {
				t.Fatalf("FindOld(%v) is %d, and %d is no younger", f, old, b)
			}
		}
		for _, p := range f[old].Pages {
			last, _ := impl.FindLast(f, p.Rec.Addr)
			if p.State != 1 || last != p.Rec {
				continue
			}
			for b := range f {
				if b != old && len(recsOfAddr(f[b], p.Rec.Addr)) > 0 {
					t.Fatalf("%v: block %d has an address of which the last record is on %d", f, b, old)
				}
			}
			mustLast(t, wiped, p.Rec.Addr, impl.Rec{}, false)
		}
		for addr := 1; addr <= 6; addr++ {
			was, _ := impl.FindLast(f, addr)
			if now, ok := impl.FindLast(wiped, addr); ok && now != was {
				t.Fatalf("%v came back, where %v was last: %v", now, was, f)
			}
		}
	}
}

func TestP23OrderStays(t *testing.T) {
	for _, f := range orderedFlashes() {
		_, ok := impl.FindOpen(f)
		for _, torn := range []bool{false, true} {
			if r, free := nextRec(f); ok && free {
				mustOrder(t, writeNext(t, f, r, torn), true)
			}
			if !ok {
				wiped, _ := impl.FlashWipe(f, impl.FindOld(f), torn)
				mustOrder(t, wiped, true)
			}
		}
	}
}

func TestP24WhatIsWrittenIsLast(t *testing.T) {
	for _, f := range allFlashes() {
		_, ok := impl.FindOpen(f)
		r, free := nextRec(f)
		if !ok || !free {
			continue
		}
		for addr := 1; addr <= 6; addr++ {
			r.Addr = addr
			written := writeNext(t, f, r, false)
			torn := writeNext(t, f, r, true)
			for other := 1; other <= 6; other++ {
				was, there := impl.FindLast(f, other)
				mustLast(t, torn, other, was, there)
				if other == addr {
					was, there = r, true
				}
				mustLast(t, written, other, was, there)
			}
		}
	}
}

func TestP25FindOpenAndFlashClean(t *testing.T) {
	closed := 0
	for _, f := range allFlashes() {
		clean := 0
		for b := range f {
			clean += impl.FlashClean(f, b)
		}
		if _, ok := impl.FindOpen(f); ok != (clean > 0) {
			t.Fatalf("FindOpen(%v) is %v with %d clean pages", f, ok, clean)
		}
		old := impl.FindOld(f)
		if clean > 0 || f[old].Worn == 200 {
			continue
		}
		closed++
		wiped, _ := impl.FlashWipe(f, old, false)
		mustOpen(t, wiped, old, true)
		fell, _ := impl.FlashWipe(f, old, true)
		mustOpen(t, fell, 0, false)
	}
	if closed < 100 {
		t.Errorf("just %d without a clean page", closed)
	}
}

func TestP26AnotherBlockIsOld(t *testing.T) {
	tried := 0
	for _, f := range orderedFlashes() {
		old := impl.FindOld(f)
		if _, ok := impl.FindOpen(f); ok || f[old].Worn == 200 || impl.FindNext(f) > 597 {
			continue
		}
		tried++
		got, _ := impl.FlashWipe(f, old, false)
		for i := 0; i < 4; i++ {
			r, _ := nextRec(got)
			got = writeNext(t, got, r, false)
		}
		if impl.FindOld(got) == old || impl.FlashClean(got, old) != 0 {
			t.Fatalf("%v: FindOld is %d again: %v", f, old, got)
		}
	}
	if tried < 100 {
		t.Errorf("just %d without a clean page", tried)
	}
}

func TestP27OrderStaysWithTornPages(t *testing.T) {
	for _, f := range orderedFlashes() {
		for _, torn := range withTornPages(f) {
			mustOrder(t, torn, true)
		}
	}
}

func TestP28FindNextBehindWipes(t *testing.T) {
	for _, f := range allFlashes() {
		all := copyFlash(f)
		for b := range f {
			for _, torn := range []bool{false, true} {
				wiped, ok := impl.FlashWipe(f, b, torn)
				was, now := impl.FindNext(f), impl.FindNext(wiped)
				left := slices.Clone(f)
				if ok {
					left[b] = impl.Block{}
				}
				if now > was || now != greatestSeq(allSeqs(left))+1 {
					t.Fatalf("FindNext(%v) is %d, behind FlashWipe of %d %d", f, was, b, now)
				}
			}
			all[b].Worn %= 200
			all, _ = impl.FlashWipe(all, b, b%2 == 0)
		}
		if n := impl.FindNext(all); n != 1 {
			t.Fatalf("FindNext(%v) is %d", all, n)
		}
	}
}

// stepOfRun writes the next record, or, if no page is clean, wipes the eldest block; false, if neither can be done.
func stepOfRun(t *testing.T, f []impl.Block, next func(int) int) ([]impl.Block, bool) {
	t.Helper()
	r, free := nextRec(f)
	if !free {
		return f, false
	}
	torn := next(5) == 0
	if _, ok := impl.FindOpen(f); !ok {
		return impl.FlashWipe(f, impl.FindOld(f), torn)
	}
	r.Addr, r.Val = 1+next(6)*next(2), next(10)
	return writeNext(t, f, r, torn), true
}

func TestLongRunsStayInOrder(t *testing.T) {
	for seed := uint32(1); seed <= 8; seed++ {
		next := steadyNumbers(seed)
		f, steps := impl.FlashNew(), 0
		for goes := true; goes; steps++ {
			mustFind(t, f)
			mustOrder(t, f, true)
			f, goes = stepOfRun(t, f, next)
		}
		if impl.FindNext(f) != 601 || steps < 600 {
			t.Errorf("run %d ends behind %d steps: %v", seed, steps, f)
		}
	}
}

// mustFindNothing says that blocks which are not ok are answered as the document says.
func mustFindNothing(t *testing.T, name string, f []impl.Block) {
	t.Helper()
	for _, addr := range []int{-1, 0, 1, 2, 3, 4, 5, 6, 7} {
		if r, ok := impl.FindLast(f, addr); ok || r != (impl.Rec{}) {
			t.Fatalf("%s: FindLast(%v, %d) is %v %v", name, f, addr, r, ok)
		}
	}
	for block := -1; block <= 4; block++ {
		for page := -1; page <= 4; page++ {
			if impl.FindLive(f, block, page) {
				t.Fatalf("%s: FindLive(%v, %d, %d)", name, f, block, page)
			}
		}
	}
	open, ok := impl.FindOpen(f)
	if n, old := impl.FindNext(f), impl.FindOld(f); n != 0 || old != -1 || open != 0 || ok || impl.FindOrder(f) {
		t.Fatalf("%s: %v: FindNext %d, FindOld %d, FindOpen %d %v, FindOrder %v", name, f, n, old, open, ok, impl.FindOrder(f))
	}
}

func TestOfWrongBlocksNothingIsFound(t *testing.T) {
	mustFindNothing(t, "nil", nil)
	mustFindNothing(t, "empty", []impl.Block{})
	flashes := someFlashes()
	for i, f := range orderedFlashes() {
		if i < 8 || i%50 == 0 {
			flashes = append(flashes, f)
		}
	}
	for _, f := range flashes {
		for _, w := range wrongFlashes(f) {
			mustFindNothing(t, w.name, w.f)
		}
	}
}

func TestFindingLeavesItsArguments(t *testing.T) {
	flashes := append(someFlashes(), orderedFlashes()[:200]...)
	for _, w := range wrongFlashes(someFlashes()[40]) {
		flashes = append(flashes, w.f)
	}
	for _, f := range flashes {
		given := roomy(f)
		was := wholeOf(given)
		for n := -1; n <= 7; n++ {
			impl.FindLast(given, n)
			impl.FindLive(given, n, 7-n)
			impl.FindLive(given, n, n)
		}
		impl.FindNext(given)
		impl.FindOpen(given)
		impl.FindOld(given)
		impl.FindOrder(given)
		if !sameFlash(wholeOf(given), was) {
			t.Fatalf("%v became %v", was, wholeOf(given))
		}
	}
}

func TestSpareRoomIsNotFound(t *testing.T) {
	for _, f := range append(someFlashes(), orderedFlashes()[:200]...) {
		mustFind(t, roomy(f))
	}
	f := seqBlocks([]int{1, 2, 3, 4}, []int{5, 6, 7, 8}, []int{9, 10, 11, 12}, []int{13, 14, 15, 16})
	mustFindNothing(t, "the last block in the spare room", f[:3])
	f[3].Pages = f[3].Pages[:3]
	mustFindNothing(t, "the last page in the spare room", f)
}

func TestFindingTwiceIsTheSame(t *testing.T) {
	for i, f := range allFlashes() {
		if i%7 != 0 {
			continue
		}
		told := func() string {
			open, ok := impl.FindOpen(f)
			text := fmt.Sprint(open, ok, impl.FindNext(f), impl.FindOld(f), impl.FindOrder(f))
			for addr := 1; addr <= 6; addr++ {
				last, ok := impl.FindLast(f, addr)
				text += fmt.Sprint(last, ok)
			}
			return text
		}
		if one, two := told(), told(); one != two {
			t.Fatalf("%v: %s, and then %s", f, one, two)
		}
	}
}
