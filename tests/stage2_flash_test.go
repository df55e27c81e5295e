package tests

import (
	"fmt"
	"math"
	"slices"
	"testing"

	"loop.example/buttery/impl"
)

// noBlocks is numbers that no block has: one less than the first, one more than the last, and far ones.
func noBlocks() []int {
	return []int{-1, 4, -4, 5, 256, 1 << 32, math.MinInt, math.MaxInt}
}

// blockShapes is every row of pages of one block that the document calls ok, as states.
func blockShapes() [][]int {
	var all [][]int
	for used := 0; used <= 4; used++ {
		for torn := 0; torn < 1<<used; torn++ {
			shape := []int{0, 0, 0, 0}
			for i := 0; i < used; i++ {
				shape[i] = 1 + torn>>i&1
			}
			all = append(all, shape)
		}
	}
	return all
}

// flashOfShapes is blocks of such shapes; the numbers of their records begin at some place of 1 to 600, and leap.
func flashOfShapes(shapes [][]int, worn []int, from int) []impl.Block {
	f := make([]impl.Block, 4)
	for b := range f {
		f[b] = impl.Block{Pages: make([]impl.Page, 4), Worn: worn[b]}
		for i, state := range shapes[b] {
			n := from + b*4 + i
			f[b].Pages[i].State = state
			if state == 1 {
				f[b].Pages[i].Rec = impl.Rec{Kind: 1 + n%2, Seq: 1 + n*367%600, Addr: 1 + n%6, Val: n % 10}
			}
		}
	}
	return f
}

// okFlashes is blocks that the document calls ok: of each two shapes on two blocks, with all sorts on the others.
func okFlashes() [][]impl.Block {
	all := [][]impl.Block{impl.FlashNew()}
	shapes := blockShapes()
	wears := []int{0, 1, 100, 199, 200}
	for i, one := range shapes {
		for j, two := range shapes {
			row := [][]int{one, two, shapes[(i+j)%len(shapes)], shapes[(i*7+j*3+5)%len(shapes)]}
			worn := []int{wears[i%5], wears[j%5], wears[(i+j)%5], wears[(i*2+j)%5]}
			turn := (i + j) % 4
			row = append(row[turn:], row[:turn]...)
			all = append(all, flashOfShapes(row, worn, i*31+j))
		}
	}
	return all
}

// someFlashes is each eleventh of okFlashes, for tests that try much with each.
func someFlashes() [][]impl.Block {
	var some [][]impl.Block
	for i, f := range okFlashes() {
		if i%11 == 0 {
			some = append(some, f)
		}
	}
	return some
}

// copyFlash is the same blocks in other memory, by nothing of the program.
func copyFlash(f []impl.Block) []impl.Block {
	other := make([]impl.Block, len(f))
	for i, b := range f {
		other[i] = impl.Block{Pages: append([]impl.Page(nil), b.Pages...), Worn: b.Worn}
	}
	return other
}

// sameFlash holds blocks against each other; the empty list and the nil list are the same.
func sameFlash(a []impl.Block, b []impl.Block) bool {
	return slices.EqualFunc(a, b, func(x impl.Block, y impl.Block) bool {
		return x.Worn == y.Worn && slices.Equal(x.Pages, y.Pages)
	})
}

// cleanOf counts the clean pages of a block.
func cleanOf(b impl.Block) int {
	clean := 0
	for _, p := range b.Pages {
		if p.State == 0 {
			clean++
		}
	}
	return clean
}

// numberIsThere looks for a record of that number.
func numberIsThere(f []impl.Block, seq int) bool {
	for _, b := range f {
		for _, p := range b.Pages {
			if p.State == 1 && p.Rec.Seq == seq {
				return true
			}
		}
	}
	return false
}

// freeNumber is the first number from some place on that no record has.
func freeNumber(f []impl.Block, from int) int {
	for numberIsThere(f, from) {
		from = from%600 + 1
	}
	return from
}

// wantWrite is what the document asks of FlashWrite of ok blocks, one of them, and an ok record.
func wantWrite(f []impl.Block, block int, r impl.Rec, torn bool) ([]impl.Block, bool) {
	want := copyFlash(f)
	clean := cleanOf(f[block])
	if clean == 0 || numberIsThere(f, r.Seq) {
		return want, false
	}
	page := impl.Page{State: 1, Rec: r}
	if torn {
		page = impl.Page{State: 2}
	}
	want[block].Pages[4-clean] = page
	return want, true
}

// wantWipe is what the document asks of FlashWipe of ok blocks, and one of them.
func wantWipe(f []impl.Block, block int, torn bool) ([]impl.Block, bool) {
	want := copyFlash(f)
	if f[block].Worn == 200 {
		return want, false
	}
	page := impl.Page{}
	if torn {
		page.State = 2
	}
	want[block] = impl.Block{Pages: []impl.Page{page, page, page, page}, Worn: f[block].Worn + 1}
	return want, true
}

// mustFlash holds an answer of FlashWrite or FlashWipe against what is wanted.
func mustFlash(t *testing.T, what string, got []impl.Block, ok bool, want []impl.Block, wantOk bool) {
	t.Helper()
	if ok != wantOk || !sameFlash(got, want) {
		t.Fatalf("%s\nis   %v %v,\nnot  %v %v", what, got, ok, want, wantOk)
	}
}

// namedFlash is blocks and what is wrong with them.
type namedFlash struct {
	name string
	f    []impl.Block
}

// wrongPages is pages that are not ok, wherever they stand.
func wrongPages(p impl.Page) map[string]impl.Page {
	all := map[string]impl.Page{}
	for _, state := range []int{-1, 3, -2, 256, 257, 258, math.MinInt, math.MaxInt} {
		all[fmt.Sprint("state ", state)] = impl.Page{State: state, Rec: p.Rec}
		all[fmt.Sprint("bare state ", state)] = impl.Page{State: state}
	}
	if p.State == 1 {
		for _, kind := range []int{0, 3, -1} {
			w := p
			w.Rec.Kind = kind
			all[fmt.Sprint("kind ", kind)] = w
		}
		for _, seq := range []int{0, 601, -1, math.MinInt, math.MaxInt} {
			w := p
			w.Rec.Seq = seq
			all[fmt.Sprint("seq ", seq)] = w
		}
		for _, addr := range []int{0, 7, -1} {
			w := p
			w.Rec.Addr = addr
			all[fmt.Sprint("addr ", addr)] = w
		}
		for _, val := range []int{-1, 10} {
			w := p
			w.Rec.Val = val
			all[fmt.Sprint("val ", val)] = w
		}
		all["written with nothing"] = impl.Page{State: 1}
		all["torn, but its record stays"] = impl.Page{State: 2, Rec: p.Rec}
		return all
	}
	for _, r := range []impl.Rec{{Kind: 1}, {Seq: 1}, {Addr: 1}, {Val: 1}, {Val: -1}, {Kind: 2, Seq: 599, Addr: 1, Val: 0}} {
		all[fmt.Sprint("not written, with ", r)] = impl.Page{State: p.State, Rec: r}
	}
	return all
}

// wrongFlashes is blocks of which one thing is not ok.
func wrongFlashes(f []impl.Block) []namedFlash {
	var all []namedFlash
	add := func(name string, change func(w []impl.Block) []impl.Block) {
		all = append(all, namedFlash{name, change(copyFlash(f))})
	}
	more := impl.Block{Pages: make([]impl.Page, 4)}
	add("a block more", func(w []impl.Block) []impl.Block { return append(w, more) })
	add("a block less", func(w []impl.Block) []impl.Block { return w[:3] })
	add("the first block less", func(w []impl.Block) []impl.Block { return w[1:] })
	add("no block", func(w []impl.Block) []impl.Block { return w[:0] })
	add("nil", func(w []impl.Block) []impl.Block { return nil })
	for b := range f {
		for _, worn := range []int{-1, 201, 202, 256, 1 << 32, math.MinInt, math.MaxInt} {
			add(fmt.Sprint("worn ", worn), func(w []impl.Block) []impl.Block { w[b].Worn = worn; return w })
		}
		add("a page more", func(w []impl.Block) []impl.Block { w[b].Pages = append(w[b].Pages, impl.Page{}); return w })
		add("a page less", func(w []impl.Block) []impl.Block { w[b].Pages = w[b].Pages[:3]; return w })
		add("no page", func(w []impl.Block) []impl.Block { w[b].Pages = w[b].Pages[:0]; return w })
		add("nil pages", func(w []impl.Block) []impl.Block { w[b].Pages = nil; return w })
		for i, p := range f[b].Pages {
			for name, wrong := range wrongPages(p) {
				add(name, func(w []impl.Block) []impl.Block { w[b].Pages[i] = wrong; return w })
			}
		}
	}
	return append(append(all, cleanAhead(f)...), numberTwice(f)...)
}

// cleanAhead is the blocks with one page clean ahead of one that is not.
func cleanAhead(f []impl.Block) []namedFlash {
	var all []namedFlash
	for b := range f {
		for i := 0; i+1 < 4-cleanOf(f[b]); i++ {
			w := copyFlash(f)
			w[b].Pages[i] = impl.Page{}
			all = append(all, namedFlash{fmt.Sprint("clean ahead, at ", b, " ", i), w})
		}
		for i := 5 - cleanOf(f[b]); i < 4; i++ {
			w := copyFlash(f)
			w[b].Pages[i] = impl.Page{State: 2}
			all = append(all, namedFlash{fmt.Sprint("torn behind, at ", b, " ", i), w})
		}
	}
	return all
}

// numberTwice is the blocks with the number of a written page on one other page, too, where a page may be written.
func numberTwice(f []impl.Block) []namedFlash {
	var all []namedFlash
	for b := range f {
		for i, p := range f[b].Pages {
			if p.State != 1 {
				continue
			}
			for c := range f {
				for j := 0; j < 4 && j <= 4-cleanOf(f[c]); j++ {
					if b == c && i == j {
						continue
					}
					w := copyFlash(f)
					w[c].Pages[j] = p
					all = append(all, namedFlash{fmt.Sprint("record twice: ", b, i, " ", c, j), w})
					v := copyFlash(w)
					v[c].Pages[j].Rec = impl.Rec{Kind: 3 - p.Rec.Kind, Seq: p.Rec.Seq, Addr: 7 - p.Rec.Addr, Val: 9 - p.Rec.Val}
					all = append(all, namedFlash{fmt.Sprint("number twice: ", b, i, " ", c, j), v})
				}
			}
		}
	}
	return all
}

func TestFlashLimitsAreThoseOfTheDocument(t *testing.T) {
	if impl.BlockMax != 4 || impl.PageMax != 4 || impl.WornMax != 200 {
		t.Error(impl.BlockMax, impl.PageMax, impl.WornMax)
	}
	if impl.PageClean != 0 || impl.PageWritten != 1 || impl.PageTorn != 2 {
		t.Error(impl.PageClean, impl.PageWritten, impl.PageTorn)
	}
}

func TestFlashNewIsFourCleanBlocks(t *testing.T) {
	none := []int{0, 0, 0, 0}
	want := flashOfShapes([][]int{none, none, none, none}, none, 0)
	if f := impl.FlashNew(); !sameFlash(f, want) || !impl.FlashOk(f) {
		t.Error(f, impl.FlashOk(f))
	}
}

func TestFlashOkOfOkBlocks(t *testing.T) {
	for _, f := range okFlashes() {
		if !impl.FlashOk(f) {
			t.Fatalf("not ok: %v", f)
		}
	}
}

func TestFlashOkAtTheLimitsOfWear(t *testing.T) {
	for b := 0; b < 4; b++ {
		for worn := -3; worn <= 203; worn++ {
			f := impl.FlashNew()
			f[b].Worn = worn
			if impl.FlashOk(f) != (0 <= worn && worn <= 200) {
				t.Errorf("block %d worn %d: %v", b, worn, impl.FlashOk(f))
			}
		}
	}
}

func TestFlashOkOfAsManyBlocksAndPages(t *testing.T) {
	for blocks := 0; blocks <= 6; blocks++ {
		for pages := 0; pages <= 6; pages++ {
			f := make([]impl.Block, blocks)
			for b := range f {
				f[b].Pages = make([]impl.Page, pages)
			}
			if impl.FlashOk(f) != (blocks == 4 && pages == 4) {
				t.Errorf("%d blocks of %d pages: %v", blocks, pages, impl.FlashOk(f))
			}
		}
	}
}

func TestWrongBlocksAreNotOkAndNothingIsDoneWithThem(t *testing.T) {
	for _, f := range someFlashes() {
		for _, w := range wrongFlashes(f) {
			if impl.FlashOk(w.f) {
				t.Fatalf("%s: ok: %v", w.name, w.f)
			}
			r := impl.Rec{Kind: 1, Seq: freeNumber(w.f, 300), Addr: 1, Val: 0}
			for _, block := range []int{0, 1, 2, 3, -1, 4} {
				if n := impl.FlashClean(w.f, block); n != -1 {
					t.Fatalf("%s: FlashClean(%v, %d) is %d", w.name, w.f, block, n)
				}
				for _, torn := range []bool{false, true} {
					got, ok := impl.FlashWrite(w.f, block, r, torn)
					mustFlash(t, w.name+": FlashWrite", got, ok, nil, false)
					got, ok = impl.FlashWipe(w.f, block, torn)
					mustFlash(t, w.name+": FlashWipe", got, ok, nil, false)
				}
			}
		}
	}
}

func TestAHiddenBlockOrPageBehindTheEndDoesNotCount(t *testing.T) {
	f := impl.FlashNew()
	if impl.FlashOk(f[:3]) || impl.FlashClean(f[:3], 3) != -1 || impl.FlashClean(f[:3], 0) != -1 {
		t.Error("three blocks, and one in the spare room")
	}
	f[3].Pages = f[3].Pages[:3]
	if impl.FlashOk(f) || impl.FlashClean(f, 3) != -1 || impl.FlashClean(f, 0) != -1 {
		t.Error("three pages, and one in the spare room")
	}
}

func TestP7FlashCleanCountsTheLastPages(t *testing.T) {
	for _, f := range okFlashes() {
		for b := range f {
			n := impl.FlashClean(f, b)
			if n != cleanOf(f[b]) {
				t.Fatalf("FlashClean(%v, %d) is %d, not %d", f, b, n, cleanOf(f[b]))
			}
			for i, p := range f[b].Pages {
				if (p.State == impl.PageClean) != (i >= 4-n) {
					t.Fatalf("%v: of block %d page %d is no last one of %d", f, b, i, n)
				}
			}
		}
		for _, b := range noBlocks() {
			if n := impl.FlashClean(f, b); n != -1 {
				t.Fatalf("FlashClean(%v, %d) is %d", f, b, n)
			}
		}
	}
}

// recsToWrite is records of numbers that are free, the limits among them if they are, and of each number that is there.
func recsToWrite(f []impl.Block) []impl.Rec {
	all := []impl.Rec{
		{Kind: 1, Seq: 1, Addr: 6, Val: 9}, {Kind: 2, Seq: 600, Addr: 1, Val: 0},
		{Kind: 2, Seq: freeNumber(f, 1), Addr: 3, Val: 4}, {Kind: 1, Seq: freeNumber(f, 300), Addr: 2, Val: 7},
	}
	for _, b := range f {
		for _, p := range b.Pages {
			if p.State == 1 {
				all = append(all, p.Rec, impl.Rec{Kind: 3 - p.Rec.Kind, Seq: p.Rec.Seq, Addr: 7 - p.Rec.Addr, Val: 9 - p.Rec.Val})
			}
		}
	}
	return all
}

func TestP8AndP9FlashWriteIsAsTheDocumentSays(t *testing.T) {
	for _, f := range okFlashes() {
		for _, r := range recsToWrite(f) {
			for b := range f {
				for _, torn := range []bool{false, true} {
					got, ok := impl.FlashWrite(f, b, r, torn)
					want, wantOk := wantWrite(f, b, r, torn)
					mustFlash(t, fmt.Sprint("FlashWrite ", f, b, r, torn), got, ok, want, wantOk)
				}
			}
		}
	}
}

func TestP8OneCleanPageLess(t *testing.T) {
	f := impl.FlashNew()
	for i := 0; i < 4; i++ {
		r := impl.Rec{Kind: 1 + i%2, Seq: 600 - i, Addr: 1 + i, Val: i}
		got, ok := impl.FlashWrite(f, 3, r, i == 1)
		if !ok || !impl.FlashOk(got) || impl.FlashClean(got, 3) != 3-i {
			t.Fatal(i, got, ok)
		}
		want := impl.Page{State: impl.PageWritten, Rec: r}
		if i == 1 {
			want = impl.Page{State: impl.PageTorn}
		}
		if got[3].Pages[i] != want {
			t.Fatal(i, got)
		}
		f = got
	}
	for b := 0; b < 3; b++ {
		if impl.FlashClean(f, b) != 4 {
			t.Error("another block", f)
		}
	}
}

func TestP8ANumberThatWasTornIsFree(t *testing.T) {
	r := impl.Rec{Kind: 1, Seq: 5, Addr: 1, Val: 1}
	f, ok := impl.FlashWrite(impl.FlashNew(), 0, r, true)
	if !ok {
		t.Fatal(f)
	}
	g, ok := impl.FlashWrite(f, 0, r, false)
	want := copyFlash(f)
	want[0].Pages[1] = impl.Page{State: 1, Rec: r}
	mustFlash(t, "FlashWrite of the number that was torn", g, ok, want, true)
}

func TestP9AFullBlockStaysAsItIs(t *testing.T) {
	full := []int{1, 2, 1, 1}
	torn := []int{2, 2, 2, 2}
	none := []int{0, 0, 0, 0}
	f := flashOfShapes([][]int{full, none, torn, full}, []int{0, 1, 2, 200}, 9)
	r := impl.Rec{Kind: 1, Seq: freeNumber(f, 1), Addr: 1, Val: 1}
	for _, b := range []int{0, 2, 3} {
		for _, falls := range []bool{false, true} {
			got, ok := impl.FlashWrite(f, b, r, falls)
			mustFlash(t, "FlashWrite on a full block", got, ok, f, false)
		}
	}
}

func TestP9ANumberThatIsThereStaysAlone(t *testing.T) {
	one := []int{1, 0, 0, 0}
	f := flashOfShapes([][]int{one, one, one, one}, []int{0, 0, 0, 0}, 0)
	for from := range f {
		r := impl.Rec{Kind: 2, Seq: f[from].Pages[0].Rec.Seq, Addr: 5, Val: 5}
		for b := range f {
			for _, torn := range []bool{false, true} {
				got, ok := impl.FlashWrite(f, b, r, torn)
				mustFlash(t, "FlashWrite of a number that is there", got, ok, f, false)
			}
		}
	}
}

func TestFlashWriteOfWrongRecordsAndNoBlocksIsNothing(t *testing.T) {
	full := []int{1, 1, 1, 1}
	flashes := append(someFlashes(), flashOfShapes([][]int{full, full, full, full}, []int{200, 200, 200, 200}, 0))
	wrong := append(wrongRecs()[:40], impl.Rec{})
	for _, f := range flashes {
		for _, torn := range []bool{false, true} {
			for _, r := range wrong {
				for b := range f {
					got, ok := impl.FlashWrite(f, b, r, torn)
					mustFlash(t, fmt.Sprint("FlashWrite of ", r), got, ok, nil, false)
				}
			}
			for _, r := range recsToWrite(f) {
				for _, b := range noBlocks() {
					got, ok := impl.FlashWrite(f, b, r, torn)
					mustFlash(t, fmt.Sprint("FlashWrite on ", b), got, ok, nil, false)
				}
			}
		}
	}
}

func TestP10FlashWipeIsAsTheDocumentSays(t *testing.T) {
	for _, f := range okFlashes() {
		for _, torn := range []bool{false, true} {
			for b := range f {
				got, ok := impl.FlashWipe(f, b, torn)
				want, wantOk := wantWipe(f, b, torn)
				mustFlash(t, fmt.Sprint("FlashWipe ", f, b, torn), got, ok, want, wantOk)
				if !impl.FlashOk(got) {
					t.Fatalf("not ok behind FlashWipe: %v", got)
				}
			}
			for _, b := range noBlocks() {
				got, ok := impl.FlashWipe(f, b, torn)
				mustFlash(t, fmt.Sprint("FlashWipe of ", b), got, ok, nil, false)
			}
		}
	}
}

func TestP10ABlockIsWipedJustWornMaxTimes(t *testing.T) {
	f := impl.FlashNew()
	for i := 1; i <= 200; i++ {
		got, ok := impl.FlashWipe(f, 1, i%3 == 0)
		if !ok || got[1].Worn != i {
			t.Fatal(i, got, ok)
		}
		f = got
	}
	for _, torn := range []bool{false, true} {
		got, ok := impl.FlashWipe(f, 1, torn)
		mustFlash(t, "FlashWipe once more", got, ok, f, false)
	}
}

func TestP11AWipeThatFellAndOneMore(t *testing.T) {
	for _, f := range okFlashes() {
		for b := range f {
			if f[b].Worn > 198 {
				continue
			}
			fell, ok := impl.FlashWipe(f, b, true)
			twice, okTwice := impl.FlashWipe(fell, b, false)
			once, okOnce := impl.FlashWipe(f, b, false)
			if !ok || !okOnce || !okTwice {
				t.Fatalf("%v: block %d: %v %v %v", f, b, ok, okOnce, okTwice)
			}
			want := copyFlash(once)
			want[b].Worn++
			mustFlash(t, "FlashWipe behind one that fell", twice, okTwice, want, true)
		}
	}
}

func TestP11TheLastWipeMayFall(t *testing.T) {
	f := impl.FlashNew()
	f[0].Worn = 199
	fell, ok := impl.FlashWipe(f, 0, true)
	if !ok || fell[0].Worn != 200 || impl.FlashClean(fell, 0) != 0 || !impl.FlashOk(fell) {
		t.Fatal(fell, ok)
	}
	got, ok := impl.FlashWipe(fell, 0, false)
	mustFlash(t, "FlashWipe behind the last one, that fell", got, ok, fell, false)
}

// withTornPages is the blocks with each written page torn, alone and with all ahead of it.
func withTornPages(f []impl.Block) [][]impl.Block {
	var torn [][]impl.Block
	all := copyFlash(f)
	for b := range f {
		for i, p := range f[b].Pages {
			if p.State != 1 {
				continue
			}
			one := copyFlash(f)
			one[b].Pages[i] = impl.Page{State: impl.PageTorn}
			all[b].Pages[i] = impl.Page{State: impl.PageTorn}
			torn = append(torn, one, copyFlash(all))
		}
	}
	return torn
}

func TestP12AnyWrittenPageMayBeTorn(t *testing.T) {
	for _, f := range okFlashes() {
		for _, torn := range withTornPages(f) {
			if !impl.FlashOk(torn) {
				t.Fatalf("not ok: %v", torn)
			}
		}
	}
}

func TestP12NoCleanPageAheadOfAnother(t *testing.T) {
	for _, f := range okFlashes() {
		for _, w := range cleanAhead(f) {
			if impl.FlashOk(w.f) {
				t.Fatalf("%s: ok: %v", w.name, w.f)
			}
		}
	}
}

func TestP12EveryRowOfStates(t *testing.T) {
	none := []int{0, 0, 0, 0}
	for n := 0; n < 81; n++ {
		shape := []int{n % 3, n / 3 % 3, n / 9 % 3, n / 27}
		want := slices.ContainsFunc(blockShapes(), func(s []int) bool { return slices.Equal(s, shape) })
		for b := 0; b < 4; b++ {
			shapes := [][]int{none, none, none, none}
			shapes[b] = shape
			if f := flashOfShapes(shapes, none, n); impl.FlashOk(f) != want {
				t.Errorf("FlashOk(%v) is not %v", f, want)
			}
		}
	}
}

func TestP13TwoRecordsInAnyOrder(t *testing.T) {
	for _, f := range okFlashes() {
		one := impl.Rec{Kind: 1, Seq: freeNumber(f, 1), Addr: 1, Val: 2}
		two := impl.Rec{Kind: 2, Seq: freeNumber(f, one.Seq%600+1), Addr: 1, Val: 3}
		for a := range f {
			for b := range f {
				if a == b {
					continue
				}
				for torn := 0; torn < 4; torn++ {
					x, okA := impl.FlashWrite(f, a, one, torn&1 > 0)
					x, okB := impl.FlashWrite(x, b, two, torn&2 > 0)
					y, okBB := impl.FlashWrite(f, b, two, torn&2 > 0)
					y, okAA := impl.FlashWrite(y, a, one, torn&1 > 0)
					if okA != okAA || okB != okBB || len(x) != 4 || !sameFlash(x, y) {
						t.Fatalf("%v: %v on %d, %v on %d: %v, %v", f, one, a, two, b, x, y)
					}
				}
			}
		}
	}
}

func TestP14AllBlocksWiped(t *testing.T) {
	orders := [][]int{{0, 1, 2, 3}, {3, 2, 1, 0}, {2, 0, 3, 1}}
	for n, f := range okFlashes() {
		want := impl.FlashNew()
		for b := range f {
			f[b].Worn %= 200
			want[b].Worn = f[b].Worn + 1
		}
		got, ok := copyFlash(f), false
		for _, b := range orders[n%3] {
			if got, ok = impl.FlashWipe(got, b, false); !ok {
				t.Fatalf("FlashWipe(%v, %d)", got, b)
			}
		}
		mustFlash(t, "FlashWipe of each block", got, ok, want, true)
	}
}

func TestP15ANumberTwiceIsNotOk(t *testing.T) {
	for _, f := range okFlashes() {
		for _, w := range numberTwice(f) {
			if impl.FlashOk(w.f) {
				t.Fatalf("%s: ok: %v", w.name, w.f)
			}
		}
	}
}

func TestP15RecordsMayStandInOtherPlaces(t *testing.T) {
	for n, f := range okFlashes() {
		var recs []impl.Rec
		for _, b := range f {
			for _, p := range b.Pages {
				if p.State == 1 {
					recs = append(recs, p.Rec)
				}
			}
		}
		if len(recs) == 0 {
			continue
		}
		turn := n % len(recs)
		turned := append(append([]impl.Rec(nil), recs[turn:]...), recs[:turn]...)
		moved, at := copyFlash(f), 0
		packed := impl.FlashNew()
		for b := range moved {
			for i, p := range moved[b].Pages {
				if p.State == 1 {
					moved[b].Pages[i].Rec = turned[at]
					packed[3-at/4].Pages[at%4] = impl.Page{State: 1, Rec: turned[at]}
					at++
				}
			}
		}
		if !impl.FlashOk(moved) || !impl.FlashOk(packed) {
			t.Fatalf("not ok: %v or %v", moved, packed)
		}
	}
}

func TestP16AWornBlockCanBeWritten(t *testing.T) {
	for _, f := range okFlashes() {
		for b := range f {
			f[b].Worn = 200
			for _, torn := range []bool{false, true} {
				got, ok := impl.FlashWipe(f, b, torn)
				mustFlash(t, "FlashWipe of a worn block", got, ok, f, false)
				r := impl.Rec{Kind: 1, Seq: freeNumber(f, 600), Addr: 6, Val: 9}
				got, ok = impl.FlashWrite(f, b, r, torn)
				want, _ := wantWrite(f, b, r, torn)
				mustFlash(t, "FlashWrite on a worn block", got, ok, want, cleanOf(f[b]) > 0)
			}
		}
	}
}

// steadyNumbers is numbers that look thrown, each less than what it is asked with, and are the same in each run.
func steadyNumbers(seed uint32) func(n int) int {
	return func(n int) int {
		seed = seed*1664525 + 1013904223
		return int(seed>>16) % n
	}
}

func TestALongRunOfWritesAndWipes(t *testing.T) {
	f, want := impl.FlashNew(), impl.FlashNew()
	next := steadyNumbers(1)
	for i := 0; i < 20000; i++ {
		var ok, wantOk bool
		b, torn := next(4), next(4) == 0
		if next(12) == 0 {
			f, ok = impl.FlashWipe(f, b, torn)
			want, wantOk = wantWipe(want, b, torn)
		} else {
			r := impl.Rec{Kind: 1 + next(2), Seq: 1 + next(30)*20, Addr: 1 + next(6), Val: next(10)}
			f, ok = impl.FlashWrite(f, b, r, torn)
			want, wantOk = wantWrite(want, b, r, torn)
		}
		mustFlash(t, fmt.Sprint("step ", i), f, ok, want, wantOk)
		if !impl.FlashOk(f) {
			t.Fatalf("step %d: not ok: %v", i, f)
		}
		if i%2500 == 2499 {
			f, want = impl.FlashNew(), impl.FlashNew()
		}
	}
}

// roomy is the blocks in lists with spare room, which is filled with what nobody may touch.
func roomy(f []impl.Block) []impl.Block {
	junk := impl.Page{State: 7, Rec: impl.Rec{Kind: 7, Seq: 7, Addr: 7, Val: 7}}
	all := make([]impl.Block, 0, len(f)+3)
	for _, b := range f {
		pages := append(make([]impl.Page, 0, len(b.Pages)+3), b.Pages...)
		all = append(all, impl.Block{Pages: append(pages, junk, junk, junk)[:len(b.Pages)], Worn: b.Worn})
	}
	spare := impl.Block{Pages: []impl.Page{junk}, Worn: 77}
	return append(all, spare, spare, spare)[:len(f)]
}

// wholeOf is the blocks with all that is in the spare room.
func wholeOf(f []impl.Block) []impl.Block {
	whole := slices.Clone(f[:cap(f)])
	for i, b := range whole {
		whole[i].Pages = slices.Clone(b.Pages[:cap(b.Pages)])
	}
	return whole
}

// mustShareNothing says that no two lists share any place, spare room included.
func mustShareNothing(t *testing.T, what string, flashes ...[]impl.Block) {
	t.Helper()
	blocks := map[*impl.Block]bool{}
	pages := map[*impl.Page]bool{}
	for _, f := range flashes {
		whole := f[:cap(f)]
		for i := range whole {
			if blocks[&whole[i]] {
				t.Fatalf("%s: two lists of blocks share a place", what)
			}
			blocks[&whole[i]] = true
		}
		for _, b := range f {
			whole := b.Pages[:cap(b.Pages)]
			for i := range whole {
				if pages[&whole[i]] {
					t.Fatalf("%s: two lists of pages share a place", what)
				}
				pages[&whole[i]] = true
			}
		}
	}
}

func TestAnswersAreNewMemoryAndArgumentsStay(t *testing.T) {
	mustShareNothing(t, "FlashNew", impl.FlashNew(), impl.FlashNew())
	for _, f := range someFlashes() {
		for _, torn := range []bool{false, true} {
			for b := range f {
				given := roomy(f)
				was := wholeOf(given)
				wiped, _ := impl.FlashWipe(given, b, torn)
				again, _ := impl.FlashWipe(given, b, torn)
				mustShareNothing(t, "FlashWipe", given, wiped, again)
				for _, r := range recsToWrite(f) {
					one, _ := impl.FlashWrite(given, b, r, torn)
					two, _ := impl.FlashWrite(given, b, r, torn)
					mustShareNothing(t, "FlashWrite", given, one, two)
				}
				impl.FlashOk(given)
				impl.FlashClean(given, b)
				if !sameFlash(wholeOf(given), was) {
					t.Fatalf("%v became %v", was, wholeOf(given))
				}
			}
		}
	}
}

func TestWrongArgumentsStay(t *testing.T) {
	for _, w := range wrongFlashes(someFlashes()[40]) {
		given := roomy(w.f)
		was := wholeOf(given)
		impl.FlashOk(given)
		impl.FlashClean(given, 1)
		impl.FlashWipe(given, 1, false)
		impl.FlashWrite(given, 1, impl.Rec{Kind: 1, Seq: 1, Addr: 1, Val: 1}, false)
		if !sameFlash(wholeOf(given), was) {
			t.Fatalf("%s: %v became %v", w.name, was, wholeOf(given))
		}
	}
}

func TestSpareRoomChangesNoAnswer(t *testing.T) {
	for _, f := range someFlashes() {
		given := roomy(f)
		if !impl.FlashOk(given) {
			t.Fatalf("not ok: %v", given)
		}
		for b := range f {
			if impl.FlashClean(given, b) != cleanOf(f[b]) {
				t.Fatalf("FlashClean(%v, %d)", given, b)
			}
			got, ok := impl.FlashWipe(given, b, false)
			want, wantOk := wantWipe(f, b, false)
			mustFlash(t, "FlashWipe of lists with spare room", got, ok, want, wantOk)
		}
	}
}
