package tests

import (
	"fmt"
	"regexp"
	"slices"
	"strconv"
	"strings"
	"testing"

	"loop.example/buttery/impl"
)

// aNumber is what a word is that tells a number.
var aNumber = regexp.MustCompile(`^[0-9]{1,3}$`)

// clearBlocks is what `see` tells of blocks that are clean, and were never wiped.
const clearBlocks = "0 - - - -\n0 - - - -\n0 - - - -\n0 - - - -\n"

// noneOfAll is what the last line tells of a store in which all values are 0.
const noneOfAll = "all 0 0 0 0 0 0\n"

// sixteen puts fill all pages; the eldest block has the last of 1 to 4, so that a further one tells the slow disk four values.
const sixteen = "put 1 1\nput 2 2\nput 3 3\nput 4 4\nput 5 0\nput 6 1\nput 5 2\nput 6 3\n" +
	"put 5 4\nput 6 5\nput 5 6\nput 6 7\nput 5 8\nput 6 9\nput 5 0\nput 6 1\n"

// behindFirst is what `see` tells of the other blocks then.
const behindFirst = "0 d50 d61 d52 d63\n0 d54 d65 d56 d67\n0 d58 d69 d50 d61\n"

// wantNumber is the number that the word at a place tells, as the document says.
func wantNumber(words []string, place int) int {
	if place >= len(words) || !aNumber.MatchString(words[place]) {
		return -1
	}
	number, _ := strconv.Atoi(words[place])
	return number
}

// wantWords is what stands between the blanks of a line, be it empty or not.
func wantWords(line string) []string {
	var words []string
	for {
		word, rest, more := strings.Cut(line, " ")
		words = append(words, word)
		if !more {
			return words
		}
		line = rest
	}
}

// wantSee is what the document asks to be told of blocks.
func wantSee(f []impl.Block) string {
	told := ""
	for _, b := range f {
		told += fmt.Sprint(b.Worn)
		for _, p := range b.Pages {
			switch {
			case p.State == 0:
				told += " -"
			case p.State == 2:
				told += " ?"
			case p.Rec.Kind == 1:
				told += fmt.Sprintf(" d%d%d", p.Rec.Addr, p.Rec.Val)
			default:
				told += fmt.Sprintf(" c%d%d", p.Rec.Addr, p.Rec.Val)
			}
		}
		told += "\n"
	}
	return told
}

// withNumbers is a line of a word, and of numbers.
func withNumbers(word string, numbers []int) string {
	for _, n := range numbers {
		word += fmt.Sprintf(" %d", n)
	}
	return word + "\n"
}

// wantLine is what the document asks of a line: the store behind it, and what is told.
func wantLine(s impl.Store, line string) (impl.Store, string) {
	words := wantWords(line)
	one, two, three := wantNumber(words, 1), wantNumber(words, 2), wantNumber(words, 3)
	switch words[0] {
	case "put":
		return wantPlay(s, whole(1, one, two)), ""
	case "flush":
		return wantPlay(s, whole(2, one, 0)), ""
	case "fill":
		return wantPlay(s, whole(3, one, 0)), ""
	case "fall":
		return wantPlay(s, fallen(putAt(one, two), three, true)), ""
	case "all":
		return wantPlay(s, tellAll()), ""
	case "see":
		return s, wantSee(s.Flash)
	case "disk":
		return s, withNumbers("disk", s.Disk)
	case "dirty":
		return s, withNumbers("dirty", wantDirty(s))
	}
	return s, "what\n"
}

// wantLines is what the document asks of LinesRun.
func wantLines(text string) string {
	if len(text) > 600 {
		return "too long\n"
	}
	s, told := impl.Store{Flash: seqBlocks(), Disk: make([]int, 6)}, ""
	for {
		line, rest, more := strings.Cut(text, "\n")
		if !more {
			return told + withNumbers("all", wantValues(s))
		}
		var one string
		s, one = wantLine(s, line)
		told, text = told+one, rest
	}
}

// mustLines is LinesRun, held against what the document asks.
func mustLines(t *testing.T, text string) string {
	t.Helper()
	told := impl.LinesRun(text)
	if want := wantLines(text); told != want {
		t.Fatalf("%q\ntells %q,\nnot   %q", text, told, want)
	}
	return told
}

// mustTell says that a text tells just that.
func mustTell(t *testing.T, text string, want string) {
	t.Helper()
	if told := impl.LinesRun(text); told != want {
		t.Fatalf("%q\ntells %q,\nnot   %q", text, told, want)
	}
}

// mustTellSame says that two texts, of which none is too long, tell the same.
func mustTellSame(t *testing.T, one string, other string) {
	t.Helper()
	if len(one) > 600 || len(other) > 600 {
		t.Fatalf("%q or %q is too long", one, other)
	}
	if a, b := impl.LinesRun(one), impl.LinesRun(other); a != b {
		t.Fatalf("%q\ntells %q, but\n%q\ntells %q", one, a, other, b)
	}
}

// mustEndSame says that two texts, of which none is too long, tell the same in the end.
func mustEndSame(t *testing.T, one string, other string) {
	t.Helper()
	if len(one) > 600 || len(other) > 600 {
		t.Fatalf("%q or %q is too long", one, other)
	}
	if a, b := lastTold(mustLines(t, one)), lastTold(mustLines(t, other)); a != b {
		t.Fatalf("%q\ntells %q in the end, but\n%q\ntells %q", one, a, other, b)
	}
}

// toldLines is what is told, line by line.
func toldLines(told string) []string {
	return strings.Split(strings.TrimSuffix(told, "\n"), "\n")
}

// lastTold is the last line of what is told.
func lastTold(told string) string {
	lines := toldLines(told)
	return lines[len(lines)-1]
}

// putLines is so many puts of the addresses in turn.
func putLines(howMany int, addrs ...int) string {
	text := ""
	for n := range howMany {
		text += fmt.Sprintf("put %d %d\n", addrs[n%len(addrs)], n%10)
	}
	return text
}

// lastPut is the value that so many of these puts leave at an address; 0, if they put none.
func lastPut(howMany int, addr int, addrs ...int) int {
	val := 0
	for n := range howMany {
		if addrs[n%len(addrs)] == addr {
			val = n % 10
		}
	}
	return val
}

// noNumbers is words that tell no number, though each of them has something of one.
func noNumbers() []string {
	all := []string{
		"", "0001", "0000", "0002", "1000", "1111", "00000000001", "4294967297", "18446744073709551617", "99999999999999999999",
		"+1", "-1", "-0", "+0", "--1", "1-", "1+", "1a", "a1", "1a1", "a", "x", "1.", "1.0", ".1", "1e0", "0x1", "0b1", "0o1", "1_0", "_1",
		"1,", "1;", "\t1", "1\t", "\t", "1\r", "\r", "1\x00", "\x00", "\x001", "١", "１", "1١", "²", "①", "\xff", "1\xff", "one", "I",
	}
	for b := range 256 {
		if b == '\n' || b == ' ' || b >= '0' && b <= '9' {
			continue
		}
		c := string([]byte{byte(b)})
		all = append(all, c, c+"1", "1"+c, "0"+c+"1", "00"+c)
	}
	return all
}

// notWords is lines that begin with no word that there is.
func notWords() []string {
	all := []string{
		"", " ", "  ", "   ", "\t", "\r", "\x00", "\xff", "é", "hello", "what", "what 1 2", "wipe 1", "write 1 2", "read 1", "1", "1 2", "put1 2",
		"put1", "putt 1 2", "pu 1 2", "p 1 2", "put, 1 2", "put,1,2", "put\t1 2", "put\t1\t2", "\tput 1 2", " put 1 2", "  put 1 2", "ut 1 2", "pùt 1 2", "put\x00 1 2",
		"flush1", "flushh 1", "flus 1", "flush\t1", " flush 1", "fill1", "fil 1", "fills 1", "fill\t1", " fill 1", "fall1 2 0", "fal 1 2 0", "falls 1 2 0", "fall\t1 2 0", " fall 1 2 0",
		"all1", "al", "alls", " all", "\tall", "all\t", "all\r", "all:", "see1", "se", "sees", " see", "\tsee", "see\t", "see\r", "see.",
		"disk1", "dis", "disks", " disk", "\tdisk", "disk\t", "disk\r", "dirty1", "dirt", " dirty", "\tdirty", "dirty\t", "dirty\r", "clean", "clean 1 1 1", "dirt y",
		"too long", "-", "?", "d12", "c60", "#", "# put 1 2", "// see", "\"see\"", "(see)", "see,disk", "see;disk",
	}
	for _, line := range []string{"put 1 2", "flush 1", "fill 1", "fall 1 2 0", "all", "see", "disk", "dirty"} {
		word, rest, _ := strings.Cut(line, " ")
		all = append(all, strings.ToUpper(line), strings.ToUpper(line[:1])+line[1:], word[:len(word)-1]+strings.ToUpper(word[len(word)-1:])+" "+rest)
		for i := range word {
			all = append(all, word[:i]+word[i+1:]+" "+rest, word[:i]+" "+word[i:]+" "+rest, word[:i]+string(word[i]+1)+word[i+1:]+" "+rest)
		}
	}
	return slices.DeleteFunc(all, func(line string) bool {
		return slices.Contains([]string{"put", "flush", "fill", "fall", "all", "see", "disk", "dirty"}, wantWords(line)[0])
	})
}

// idleLines is lines that change nothing, and tell nothing, whatever the store is: of no address, no value, or no steps.
func idleLines() []string {
	all := []string{
		"put", "put ", "put  ", "put 1", "put 1 ", "flush", "flush ", "fill", "fill ", "fall", "fall 1", "fall 1 2", "fall 1 2 ",
		"put  1 2", "put 1  2", "put   1 2", "flush  1", "fill  1", "fall  1 2 0", "fall 1  2 0", "fall 1 2  0", "fall 1 2  6", "put\x20 1 2",
		"put 1\t2", "put 1,2", "put 1 2\t", "put 1 2\r", "flush 1\r", "fill 1\r", "fall 1 2 0\r", "fall 1 2\t0",
		"put 0 1", "put 7 1", "put 10 1", "put 007 1", "put 999 1", "put 000 1", "put 1 10", "put 1 11", "put 1 010", "put 1 99", "put 1 999", "put 256 1", "put 257 1", "put 1 256",
		"flush 0", "flush 7", "flush 999", "fill 0", "fill 7", "fill 999", "fall 0 1 0", "fall 7 1 0", "fall 999 1 0", "fall 1 10 0", "fall 1 999 0", "fall 0 1 7", "fall 7 1 7", "fall 1 10 7",
	}
	for _, word := range noNumbers() {
		all = append(all, "put "+word+" 5", "put 3 "+word, "flush "+word, "fill "+word, "fall "+word+" 5 0", "fall 3 "+word+" 0", "fall 3 5 "+word, "fall 3 5 "+word+" 7")
	}
	return all
}

// goodLine is a line of some sort that does or tells something.
func goodLine(next func(int) int) string {
	addr, val := 1+next(6), next(10)
	switch next(14) {
	case 0, 1, 2, 3, 4:
		return fmt.Sprintf("put %d %d", addr, val)
	case 5, 6:
		return fmt.Sprintf("fall %d %d %d", addr, val, next(8))
	case 7, 8:
		return fmt.Sprintf("flush %d", addr)
	case 9:
		return fmt.Sprintf("fill %d", addr)
	case 10:
		return []string{"all", "all 1", "put 01 002 3", "fall 006 7 01 x"}[next(4)]
	case 11:
		return "see"
	case 12:
		return "disk"
	default:
		return "dirty"
	}
}

// someText is a text of such lines, wrong ones among them, of at most so many bytes.
func someText(next func(int) int, wrong []string, most int) string {
	text := ""
	for {
		line := goodLine(next)
		if next(12) == 0 {
			line = wrong[next(len(wrong))]
		}
		if len(text)+len(line)+1 > most {
			return text
		}
		text += line + "\n"
	}
}

// textsOf is texts of such lines, of at most so many bytes, and behind as many puts as fill some pages, or all.
func textsOf(howMany int, most int) []string {
	next := steadyNumbers(uint32(most))
	wrong := append(notWords(), idleLines()...)
	all := []string{"", "\n"}
	for n := range howMany {
		head := ""
		if n%2 == 0 {
			head = putLines(n/2%20, 1+n%6, 1+n/6%6, 1+n/3%6)
		}
		all = append(all, head+someText(next, wrong, most-len(head)-n%5*60))
	}
	return all
}

// statesOf is lines that leave stores of all sorts, short enough that much more fits behind them.
func statesOf() []string {
	all := []string{
		"", "put 1 2\n", "fill 3\n", "put 1 2\nflush 1\n", "fall 1 2 0\n", "put 1 2\nput 2 3\nput 3 4\nput 4 5\nput 5 6\nput 6 7\n",
		putLines(15, 1), putLines(16, 1), putLines(17, 3), putLines(16, 1, 2, 3, 4, 5, 6), sixteen, sixteen + "fall 6 9 4\n",
		sixteen + "fall 6 9 5\n", sixteen + "put 6 9\n", sixteen + "all\n", putLines(16, 1) + "fall 1 2 0\n", putLines(20, 1, 2, 3) + "flush 2\n",
	}
	return append(all, textsOf(60, 240)...)
}

func TestLinesAreAsTheDocumentSays(t *testing.T) {
	counts := map[string]int{}
	for _, text := range append(textsOf(700, 600), textsOf(200, 300)...) {
		told := mustLines(t, text)
		for _, what := range []string{"what\n", " ?", " d", " c", " -", "disk", "dirty", "dirty\n", "\n1 ", "\n2 "} {
			counts[what] += strings.Count("\n"+told, what)
		}
	}
	for what, count := range counts {
		if count < 50 {
			t.Errorf("%q is told just %d times", what, count)
		}
	}
}

func TestP101EachLineEndsAndTheLastIsAll(t *testing.T) {
	last := regexp.MustCompile(`^all( [0-9]){6}$`)
	for _, text := range slices.Concat(textsOf(300, 600), notWords(), idleLines(), []string{"", "\n", "\n\n", strings.Repeat("\n", 600), strings.Repeat("a", 600)}) {
		for _, one := range []string{text, text + "\n", text + "\nsee"} {
			if len(one) > 600 {
				continue
			}
			told := impl.LinesRun(one)
			if !strings.HasSuffix(told, "\n") || strings.Contains(told, "\n\n") || !last.MatchString(lastTold(told)) {
				t.Fatalf("%q tells %q", one, told)
			}
		}
	}
}

func TestP102TwoValuesAndTheSlowDisk(t *testing.T) {
	for n := range 36 * 4 {
		one, two, v, w := 1+n%6, 1+n/6%6, n*7%10, (n*3+5)%10
		puts := fmt.Sprintf("put %d %d\nput %d %d\n", one, v, two, w)
		vals := make([]int, 6)
		vals[one-1], vals[two-1] = v, w
		see := fmt.Sprintf("0 d%d%d d%d%d - -\n", one, v, two, w) + clearBlocks[10:]
		mustTell(t, puts+"see\ndisk\n", see+"disk 0 0 0 0 0 0\n"+withNumbers("all", vals))
		flushed := puts + fmt.Sprintf("flush %d\nflush %d\n", one, two)
		mustTell(t, flushed+"disk\ndirty\n", withNumbers("disk", vals)+"dirty\n"+withNumbers("all", vals))
	}
}

func TestP102WhereFlushedValuesAreWritten(t *testing.T) {
	mustTell(t, "put 3 4\nput 6 9\nflush 6\nsee\ndisk\ndirty\nflush 3\nsee\ndisk\ndirty\n",
		"0 d34 d69 c69 -\n"+clearBlocks[10:]+"disk 0 0 0 0 0 9\ndirty 3\n"+
			"0 d34 d69 c69 c34\n"+clearBlocks[10:]+"disk 0 0 4 0 0 9\ndirty\nall 0 0 4 0 0 9\n")
	// Where a block is wiped for it: seven steps, the most that there are of anything.
	mustTell(t, sixteen+"flush 6\nsee\ndisk\ndirty\n", "1 c61 - - -\n"+behindFirst+"disk 1 2 3 4 0 1\ndirty 5\nall 1 2 3 4 0 1\n")
}

func TestP103AValueThatFalls(t *testing.T) {
	for n := range 60 {
		addr, was, val := 1+n%6, n/6, (n/6+3)%10
		vals, before := make([]int, 6), make([]int, 6)
		vals[addr-1], before[addr-1] = val, was
		fall := fmt.Sprintf("fall %d %d 0\n", addr, val)
		put := fmt.Sprintf("put %d %d\n", addr, val)
		mustTell(t, fall+"see\n", "0 ? - - -\n"+clearBlocks[10:]+noneOfAll)
		mustTell(t, fall+put+"see\n", fmt.Sprintf("0 ? d%d%d - -\n", addr, val)+clearBlocks[10:]+withNumbers("all", vals))
		ahead := fmt.Sprintf("put %d %d\n", addr, was)
		mustTell(t, ahead+fall+"see\n", fmt.Sprintf("0 d%d%d ? - -\n", addr, was)+clearBlocks[10:]+withNumbers("all", before))
		mustTell(t, ahead+fall+put+"dirty\n", fmt.Sprintf("dirty %d\n", addr)+withNumbers("all", vals))
	}
}

func TestP103AgainAndAgain(t *testing.T) {
	// A block with torn pages alone is wiped like any other one.
	mustTell(t, strings.Repeat("fall 2 7 0\n", 4)+"see\n", "0 ? ? ? ?\n"+clearBlocks[10:]+noneOfAll)
	mustTell(t, strings.Repeat("fall 2 7 0\n", 16)+"see\n", strings.Repeat("0 ? ? ? ?\n", 4)+noneOfAll)
	mustTell(t, strings.Repeat("fall 2 7 0\n", 17)+"see\n", "1 ? ? ? ?\n"+strings.Repeat("0 ? ? ? ?\n", 3)+noneOfAll)
	mustTell(t, strings.Repeat("fall 2 7 0\n", 16)+"put 2 7\nsee\n", "1 d27 - - -\n"+strings.Repeat("0 ? ? ? ?\n", 3)+"all 0 7 0 0 0 0\n")
}

// fullOf is what `see` tells of a block, worn so often, with the values of four puts of an address.
func fullOf(worn int, addr int, from int) string {
	text := fmt.Sprint(worn)
	for n := from; n < from+4; n++ {
		text += fmt.Sprintf(" d%d%d", addr, n%10)
	}
	return text + "\n"
}

func TestP104TheSeventeenthPutWipesTheFirstBlock(t *testing.T) {
	for addr := 1; addr <= 6; addr++ {
		full := fullOf(0, addr, 4) + fullOf(0, addr, 8) + fullOf(0, addr, 12)
		vals := make([]int, 6)
		vals[addr-1] = 5
		mustTell(t, putLines(16, addr)+"see\n", fullOf(0, addr, 0)+full+withNumbers("all", vals))
		vals[addr-1] = 6
		mustTell(t, putLines(17, addr)+"see\ndisk\n", fmt.Sprintf("1 d%d6 - - -\n", addr)+full+"disk 0 0 0 0 0 0\n"+withNumbers("all", vals))
		vals[addr-1] = 0
		mustTell(t, putLines(21, addr)+"see\n", fullOf(1, addr, 16)+fmt.Sprintf("1 d%d0 - - -\n", addr)+fullOf(0, addr, 8)+fullOf(0, addr, 12)+withNumbers("all", vals))
	}
}

func TestP104WhatLivesOnTheFirstBlockIsTold(t *testing.T) {
	mustTell(t, sixteen+"see\ndisk\n", "0 d11 d22 d33 d44\n"+behindFirst+"disk 0 0 0 0 0 0\nall 1 2 3 4 0 1\n")
	mustTell(t, sixteen+"put 6 9\nsee\ndisk\ndirty\n", "1 d69 - - -\n"+behindFirst+"disk 1 2 3 4 0 0\ndirty 5 6\nall 1 2 3 4 0 9\n")
}

func TestP105ALineThatIsNoneIsWhat(t *testing.T) {
	for _, line := range notWords() {
		mustTell(t, line+"\n", "what\n"+noneOfAll)
		mustTell(t, "put 1 3\n"+line+"\nsee\n", "what\n0 d13 - - -\n"+clearBlocks[10:]+"all 3 0 0 0 0 0\n")
		mustTell(t, sixteen+line+"\ndisk\ndirty\nsee\n", "what\ndisk 0 0 0 0 0 0\ndirty 1 2 3 4 5 6\n0 d11 d22 d33 d44\n"+behindFirst+"all 1 2 3 4 0 1\n")
	}
}

func TestP105EachByteIsNoLine(t *testing.T) {
	for b := range 256 {
		if c := string([]byte{byte(b)}); b != '\n' {
			mustTell(t, c+"\n", "what\n"+noneOfAll)
			mustTell(t, c+c+"\n"+c+" 1 2\n", "what\nwhat\n"+noneOfAll)
			mustTell(t, "put 1 2\n"+c+"put 1 3\n"+c+"see\n", "what\nwhat\nall 2 0 0 0 0 0\n")
		}
		if b != '\n' && b != ' ' {
			mustTell(t, "all"+string([]byte{byte(b)})+"\n", "what\n"+noneOfAll)
		}
	}
}

func TestP105EachByteInEachPlace(t *testing.T) {
	for _, text := range []string{"put 1 2\nsee\n", "put 2 5\nfall 2 7 0\nflush 2\ndisk\nfill 6\nsee\n", "dirty\nall\n"} {
		for i := range text {
			mustLines(t, text[:i]+text[i+1:])
			for b := range 256 {
				mustLines(t, text[:i]+string([]byte{byte(b)})+text[i+1:])
				mustLines(t, text[:i]+string([]byte{byte(b)})+text[i:])
			}
		}
	}
}

func TestP105NoAddressNoValueNoNumber(t *testing.T) {
	for _, state := range []string{"", "put 1 8\nput 3 7\n", sixteen} {
		all := lastTold(impl.LinesRun(state)) + "\n"
		seen := impl.LinesRun(state + "see\ndisk\ndirty\n")
		for _, line := range idleLines() {
			mustTell(t, state+line+"\n", all)
			mustTell(t, state+line+"\nsee\ndisk\ndirty\n", seen)
		}
	}
}

func TestP105OfEachAddressValueAndNumberOfSteps(t *testing.T) {
	for n := range 1000 {
		for _, number := range []string{fmt.Sprint(n), fmt.Sprintf("%02d", n), fmt.Sprintf("%03d", n)} {
			vals, other := make([]int, 6), make([]int, 6)
			if n >= 1 && n <= 6 {
				vals[n-1] = 5
			}
			if n <= 9 {
				other[2] = n
			}
			mustTell(t, "put "+number+" 5\n", withNumbers("all", vals))
			mustTell(t, "put 3 "+number+"\n", withNumbers("all", other))
			mustTell(t, "fall "+number+" 5 1\n", withNumbers("all", vals))
			mustTell(t, "fall 3 "+number+" 1\n", withNumbers("all", other))
			mustTell(t, "put 1 5\nput 2 5\nput 3 5\nput 4 5\nput 5 5\nput 6 5\nflush "+number+"\ndisk\n", withNumbers("disk", vals)+"all 5 5 5 5 5 5\n")
			// The put has one step, which is torn, if none is done.
			mustTell(t, "fall 3 5 "+number+"\n", withNumbers("all", []int{0, 0, 5 * min(n, 1), 0, 0, 0}))
		}
	}
}

func TestP105NumbersThatAreWrittenOtherwise(t *testing.T) {
	mustTell(t, "put 001 002\nput 02 03\nfall 03 004 01\nfall 003 5 000\nflush 02\nfill 004\nflush 01\nsee\ndisk\n",
		"0 d12 d23 d34 ?\n0 c23 c40 c12 -\n0 - - - -\n0 - - - -\ndisk 2 3 0 0 0 0\nall 2 3 4 0 0 0\n")
}

func TestP105TextsThatAreTooLong(t *testing.T) {
	puts := putLines(75, 1)
	if len(puts) != 600 {
		t.Fatal(len(puts))
	}
	mustTell(t, puts, "all 4 0 0 0 0 0\n")
	for _, long := range []string{puts + "\n", puts + "x", "\n" + puts, puts + " ", puts + "put 1 5\n", puts + puts, "see\n" + puts} {
		mustTell(t, long, "too long\n")
	}
	mustTell(t, strings.Repeat("\n", 600), strings.Repeat("what\n", 600)+noneOfAll)
	mustTell(t, strings.Repeat("\n", 601), "too long\n")
	mustTell(t, strings.Repeat("see\n", 150), strings.Repeat(clearBlocks, 150)+noneOfAll)
	mustTell(t, strings.Repeat("see\n", 150)+"s", "too long\n")
	// Bytes are counted, and not what they mean; also those behind the last newline.
	mustTell(t, strings.Repeat("é", 300), noneOfAll)
	mustTell(t, strings.Repeat("é", 300)+"\n", "too long\n")
	mustTell(t, "put 1 2\n"+strings.Repeat("a", 592), "all 2 0 0 0 0 0\n")
	mustTell(t, "put 1 2\n"+strings.Repeat("a", 593), "too long\n")
	mustTell(t, "put 1 2"+strings.Repeat(" ", 592)+"\n", "all 2 0 0 0 0 0\n")
	mustTell(t, "put 1 2"+strings.Repeat(" ", 593)+"\n", "too long\n")
	mustTell(t, strings.Repeat("put 1 2\n", 1<<17), "too long\n")
}

func TestP105TextsOfEachSize(t *testing.T) {
	for size := range 1300 {
		none := noneOfAll
		whats := strings.Repeat("what\n", size) + noneOfAll
		if size > 600 {
			none, whats = "too long\n", "too long\n"
		}
		mustTell(t, strings.Repeat("x", size), none)
		mustTell(t, strings.Repeat("\x00", size), none)
		mustTell(t, strings.Repeat("\n", size), whats)
	}
}

func TestTextsAndTheirLastNewline(t *testing.T) {
	for text, want := range map[string]string{
		"":                         noneOfAll,
		"put 1 2":                  noneOfAll,
		"see":                      noneOfAll,
		" ":                        noneOfAll,
		"\n":                       "what\n" + noneOfAll,
		"\n\n\n":                   "what\nwhat\nwhat\n" + noneOfAll,
		"put 1 2\n":                "all 2 0 0 0 0 0\n",
		"put 1 2\nput 1 3":         "all 2 0 0 0 0 0\n",
		"put 1 2\nsee":             "all 2 0 0 0 0 0\n",
		"put 1 2\nhello":           "all 2 0 0 0 0 0\n",
		"put 1 2\n\n":              "what\nall 2 0 0 0 0 0\n",
		"\nput 1 2\n":              "what\nall 2 0 0 0 0 0\n",
		"put 1 2\n\nput 3 4\n\n":   "what\nwhat\nall 2 0 4 0 0 0\n",
		"put 1 2\r\nsee\r\n":       "what\n" + noneOfAll,
		"put 1 2\rput 3 4\n":       noneOfAll,
		"put 1 2 \rput 3 4\n":      "all 2 0 0 0 0 0\n",
		"put 1 2\x00\n":            noneOfAll,
		"put 1 2\n\x00":            "all 2 0 0 0 0 0\n",
		"put 1\n2\n":               "what\n" + noneOfAll,
		"dirty\nput 6 1\ndirty":    "dirty\nall 0 0 0 0 0 1\n",
		"disk\nput 6 1\nflush 6\n": "disk 0 0 0 0 0 0\nall 0 0 0 0 0 1\n",
	} {
		mustTell(t, text, want)
	}
}

func TestFurtherWordsDoNotCount(t *testing.T) {
	for _, more := range []string{" ", "  ", " x", " 1", " 9 9 9", "  1", " \t", " \x00", " see", " put 2 3", " -1", " 0001"} {
		mustTell(t, "put 1 2"+more+"\nsee"+more+"\n", "0 d12 - - -\n"+clearBlocks[10:]+"all 2 0 0 0 0 0\n")
		mustTell(t, "put 1 2\nflush 1"+more+"\ndisk"+more+"\ndirty"+more+"\n", "disk 2 0 0 0 0 0\ndirty\nall 2 0 0 0 0 0\n")
		mustTell(t, "fill 3"+more+"\nsee\n", "0 c30 - - -\n"+clearBlocks[10:]+noneOfAll)
		mustTell(t, "fall 3 4 1"+more+"\nfall 3 5 0"+more+"\nsee\n", "0 d34 ? - -\n"+clearBlocks[10:]+"all 0 0 4 0 0 0\n")
		mustTell(t, "put 1 2\nput 5 6\nall"+more+"\ndisk\n", "disk 2 0 0 0 6 0\nall 2 0 0 0 6 0\n")
		mustTell(t, "hello"+more+"\n", "what\n"+noneOfAll)
	}
}

func TestBlanksCutWords(t *testing.T) {
	for text, want := range map[string]string{
		// Between two blanks there is an empty word, which is no number; ahead of a first blank there is one, too.
		"put  1 2\n":          noneOfAll,
		"put 1  2\n":          noneOfAll,
		"put 1 2  \n":         "all 2 0 0 0 0 0\n",
		" put 1 2\n":          "what\n" + noneOfAll,
		"  put 1 2\n":         "what\n" + noneOfAll,
		"put 1 2 \n":          "all 2 0 0 0 0 0\n",
		" \n":                 "what\n" + noneOfAll,
		"  \n":                "what\n" + noneOfAll,
		" see\n":              "what\n" + noneOfAll,
		"see \n":              clearBlocks + noneOfAll,
		"disk  \n":            "disk 0 0 0 0 0 0\n" + noneOfAll,
		"put 3 1\nflush  3\n": "all 0 0 1 0 0 0\n",
		"fall 1  2 0\nsee\n":  clearBlocks + noneOfAll,
		"fall 1 2  0\nsee\n":  clearBlocks + noneOfAll,
		"fall  1 2 1\nsee\n":  clearBlocks + noneOfAll,
		"fill  1\nsee\n":      clearBlocks + noneOfAll,
		"put 1 2\t\nsee\n":    clearBlocks + noneOfAll,
		"put\t1 2\nsee\n":     "what\n" + clearBlocks + noneOfAll,
		"put 1\t2\nsee\n":     clearBlocks + noneOfAll,
		"put\u00a01 2\n":      "what\n" + noneOfAll,
		"put 1\u00a02\n":      noneOfAll,
		"put 1\v2\n":          noneOfAll,
		"put 1\f2\n":          noneOfAll,
	} {
		mustTell(t, text, want)
	}
}

func TestP106WhatIsToldChangesNothing(t *testing.T) {
	look := "see\ndisk\ndirty\n"
	for _, text := range statesOf() {
		for _, line := range append([]string{"see", "disk", "dirty", "what"}, notWords()[:20]...) {
			mustEndSame(t, text, text+line+"\n")
			// What is looked at behind it, four blocks and three lines, is as it is without it.
			was, is := toldLines(mustLines(t, text+look)), toldLines(mustLines(t, text+line+"\n"+look))
			if !slices.Equal(was[len(was)-7:], is[len(is)-7:]) {
				t.Fatalf("behind %q %q leaves %q, not %q", text, line, is, was)
			}
		}
	}
}

func TestP106FlushFillAndAllChangeNoValue(t *testing.T) {
	for _, text := range statesOf() {
		lines := []string{"all"}
		for addr := range 9 {
			lines = append(lines, fmt.Sprintf("flush %d", addr), fmt.Sprintf("fill %d", addr))
		}
		for _, line := range lines {
			mustEndSame(t, text, text+line+"\n")
			mustEndSame(t, text, text+line+"\nall\n"+line+"\n")
			mustEndSame(t, text, text+strings.Repeat(line+"\n", 20))
		}
		mustEndSame(t, text, text+strings.Join(lines, "\n")+"\n")
	}
}

func TestP107BehindPutsAndAllTheSlowDiskHasAll(t *testing.T) {
	for howMany := 0; howMany <= 70; howMany++ {
		for _, addrs := range [][]int{{1}, {6}, {1, 2}, {1, 2, 3, 4, 5, 6}, {6, 5, 4, 3, 2, 1}, {3, 3, 1, 5}} {
			var vals []int
			for addr := 1; addr <= 6; addr++ {
				vals = append(vals, lastPut(howMany, addr, addrs...))
			}
			mustTell(t, putLines(howMany, addrs...)+"all\ndisk\ndirty\n", withNumbers("disk", vals)+"dirty\n"+withNumbers("all", vals))
			mustTell(t, putLines(howMany, addrs...)+"all\nall\ndirty\n", "dirty\n"+withNumbers("all", vals))
		}
	}
}

func TestP107AllIsAscending(t *testing.T) {
	mustTell(t, "put 6 1\nput 2 3\nput 4 5\nall\nsee\ndisk\ndirty\n",
		"0 d61 d23 d45 c23\n0 c45 c61 - -\n0 - - - -\n0 - - - -\ndisk 0 3 0 5 0 1\ndirty\nall 0 3 0 5 0 1\n")
	// The flush of 1 tells what the first block has, so that just 5 and 6 are flushed then.
	mustTell(t, sixteen+"all\nsee\ndisk\ndirty\n", "1 c11 c50 c61 -\n"+behindFirst+"disk 1 2 3 4 0 1\ndirty\nall 1 2 3 4 0 1\n")
}

func TestP108FillWritesACleanRecord(t *testing.T) {
	for addr := 1; addr <= 6; addr++ {
		fill := fmt.Sprintf("fill %d\n", addr)
		see := fmt.Sprintf("0 c%d0 - - -\n", addr) + clearBlocks[10:]
		mustTell(t, fill+"see\ndisk\ndirty\n", see+"disk 0 0 0 0 0 0\ndirty\n"+noneOfAll)
		mustTell(t, fill+fill+"see\n", see+noneOfAll)
		mustTell(t, fill+fmt.Sprintf("flush %d\nsee\n", addr), see+noneOfAll)
		for _, behind := range []string{"put %d 7\n", "put %d 7\nflush %d\n", "fall %d 7 1\n", "put %d 7\nall\n"} {
			text := strings.ReplaceAll(behind, "%d", fmt.Sprint(addr))
			mustTellSame(t, text+"see\ndisk\ndirty\n", text+fill+"see\ndisk\ndirty\n")
		}
	}
	mustTell(t, "fill 6\nfill 1\nfill 6\nfill 3\nfill 2\nfill 1\nsee\n", "0 c60 c10 c30 c20\n"+clearBlocks[10:]+noneOfAll)
}

func TestP108FillOfWhatJustTheSlowDiskHas(t *testing.T) {
	mustTell(t, sixteen+"put 6 9\nfill 2\nfill 5\nfill 4\nfill 2\nsee\n", "1 d69 c22 c44 -\n"+behindFirst+"all 1 2 3 4 0 9\n")
	// A value that fell has no record, so that the slow disk's is written.
	mustTell(t, "fall 2 7 0\nfill 2\nsee\n", "0 ? c20 - -\n"+clearBlocks[10:]+noneOfAll)
	// No page is clean: of an address with a record nothing is wiped, of one without any the eldest block is.
	mustTell(t, sixteen+"fill 1\nsee\n", "0 d11 d22 d33 d44\n"+behindFirst+"all 1 2 3 4 0 1\n")
	mustTell(t, putLines(16, 1)+"fill 2\nsee\ndisk\n", "1 c20 - - -\n"+fullOf(0, 1, 4)+fullOf(0, 1, 8)+fullOf(0, 1, 12)+"disk 0 0 0 0 0 0\nall 5 0 0 0 0 0\n")
}

func TestP109APutAndTheSameOnceMore(t *testing.T) {
	for i, text := range statesOf() {
		for n := range 12 {
			put := fmt.Sprintf("put %d %d\n", 1+n%6, (i+n*7)%10)
			mustEndSame(t, text+put, text+put+put)
			mustEndSame(t, text+put, text+put+put+put)
			// One that falls behind more steps than there are is put, too.
			mustEndSame(t, text+put, text+fmt.Sprintf("fall %d %d 999\n", 1+n%6, (i+n*7)%10)+put)
			want := strings.Fields(lastTold(impl.LinesRun(text)))
			want[1+n%6] = fmt.Sprint((i + n*7) % 10)
			if got := lastTold(impl.LinesRun(text + put + put)); got != strings.Join(want, " ") {
				t.Fatalf("behind %q %q twice tells %q, not %v", text, put, got, want)
			}
		}
	}
}

func TestP110EachBlockWasWipedThreeTimes(t *testing.T) {
	for _, addrs := range [][]int{{1}, {2}, {6}, {1, 2}, {1, 2, 3}, {1, 2, 3, 4, 5, 6}, {6, 5, 4, 3, 2, 1}, {1, 1, 1, 1, 5}} {
		told := toldLines(mustLines(t, putLines(65, addrs...)+"see\n"))
		for block, line := range told[:4] {
			worn := "3 "
			if block == 0 {
				worn = "4 "
			}
			if !strings.HasPrefix(line, worn) || (block == 0) != strings.HasSuffix(line, " - - -") {
				t.Errorf("behind 65 puts of %v: %q", addrs, told)
			}
		}
		for howMany := 0; howMany <= 70; howMany++ {
			mustLines(t, putLines(howMany, addrs...)+"see\n")
		}
	}
	mustTell(t, putLines(65, 4)+"see\n", "4 d44 - - -\n"+fullOf(3, 4, 52)+fullOf(3, 4, 56)+fullOf(3, 4, 60)+"all 0 0 0 4 0 0\n")
	mustTell(t, putLines(64, 4)+"see\n", fullOf(3, 4, 48)+fullOf(3, 4, 52)+fullOf(3, 4, 56)+fullOf(3, 4, 60)+"all 0 0 0 3 0 0\n")
}

func TestP111FlushTwiceIsFlushOnce(t *testing.T) {
	changed := 0
	for _, text := range statesOf() {
		for addr := 0; addr <= 7; addr++ {
			flush := fmt.Sprintf("flush %d\n", addr)
			mustTellSame(t, text+flush+"see\ndisk\ndirty\n", text+flush+flush+"see\ndisk\ndirty\n")
			mustTellSame(t, text+flush+"see\n", text+flush+flush+flush+"see\n")
			if impl.LinesRun(text+flush+"see\n") != impl.LinesRun(text+"see\n") {
				changed++
			}
		}
	}
	if changed < 100 {
		t.Errorf("just %d flushes did anything", changed)
	}
}

func TestSeeOfPagesOfAllSorts(t *testing.T) {
	mustTell(t, "see\n", clearBlocks+noneOfAll)
	mustTell(t, "put 1 2\nfall 1 3 0\nfill 6\nsee\n", "0 d12 ? c60 -\n"+clearBlocks[10:]+"all 2 0 0 0 0 0\n")
	mustTell(t, "put 6 9\nflush 6\nfall 6 0 1\nput 2 0\nput 6 9\nsee\n", "0 d69 c69 d60 d20\n0 d69 - - -\n0 - - - -\n0 - - - -\nall 0 0 0 0 0 9\n")
	// A wipe that fell leaves torn pages, and its block is worn; it is wiped once more then.
	others := fullOf(0, 1, 4) + fullOf(0, 1, 8) + fullOf(0, 1, 12)
	mustTell(t, putLines(16, 1)+"fall 2 7 0\nsee\n", "1 ? ? ? ?\n"+others+"all 5 0 0 0 0 0\n")
	mustTell(t, putLines(16, 1)+"fall 2 7 0\nfall 2 7 0\nsee\n", "2 ? ? ? ?\n"+others+"all 5 0 0 0 0 0\n")
	mustTell(t, putLines(16, 1)+"fall 2 7 0\nput 2 7\nsee\n", "2 d27 - - -\n"+others+"all 5 7 0 0 0 0\n")
	mustTell(t, putLines(16, 1)+strings.Repeat("fall 2 7 0\n", 12)+"see\n", "12 ? ? ? ?\n"+others+"all 5 0 0 0 0 0\n")
}

func TestDiskAndDirtyOfNoneSomeAndAll(t *testing.T) {
	for set := range 64 {
		var dirty []int
		vals, puts, flushes := make([]int, 6), "", ""
		for addr := 6; addr >= 1; addr-- {
			if set>>(addr-1)&1 == 1 {
				dirty = append([]int{addr}, dirty...)
				vals[addr-1] = addr + 3
				puts += fmt.Sprintf("put %d %d\n", addr, addr+3)
				flushes += fmt.Sprintf("flush %d\n", addr)
			}
		}
		all := withNumbers("all", vals)
		mustTell(t, puts+"dirty\ndisk\n", withNumbers("dirty", dirty)+"disk 0 0 0 0 0 0\n"+all)
		mustTell(t, puts+flushes+"dirty\ndisk\n", "dirty\n"+withNumbers("disk", vals)+all)
		mustTell(t, puts+"all\ndirty\ndisk\n", "dirty\n"+withNumbers("disk", vals)+all)
	}
	mustTell(t, "put 2 3\nflush 2\nput 2 4\ndirty\ndisk\n", "dirty 2\ndisk 0 3 0 0 0 0\nall 0 4 0 0 0 0\n")
	mustTell(t, "fill 4\nfall 4 5 0\ndirty\ndisk\n", "dirty\ndisk 0 0 0 0 0 0\n"+noneOfAll)
}

func TestFallAtEachStep(t *testing.T) {
	first := "0 d11 d22 d33 d44\n"
	for n, want := range []string{
		first + behindFirst + "disk 0 0 0 0 0 0\ndirty 1 2 3 4 5 6\nall 1 2 3 4 0 1\n",
		first + behindFirst + "disk 1 0 0 0 0 0\ndirty 1 2 3 4 5 6\nall 1 2 3 4 0 1\n",
		first + behindFirst + "disk 1 2 0 0 0 0\ndirty 1 2 3 4 5 6\nall 1 2 3 4 0 1\n",
		first + behindFirst + "disk 1 2 3 0 0 0\ndirty 1 2 3 4 5 6\nall 1 2 3 4 0 1\n",
		"1 ? ? ? ?\n" + behindFirst + "disk 1 2 3 4 0 0\ndirty 5 6\nall 1 2 3 4 0 1\n",
		"1 ? - - -\n" + behindFirst + "disk 1 2 3 4 0 0\ndirty 5 6\nall 1 2 3 4 0 1\n",
		"1 d69 - - -\n" + behindFirst + "disk 1 2 3 4 0 0\ndirty 5 6\nall 1 2 3 4 0 9\n",
		"1 d69 - - -\n" + behindFirst + "disk 1 2 3 4 0 0\ndirty 5 6\nall 1 2 3 4 0 9\n",
	} {
		mustTell(t, sixteen+fmt.Sprintf("fall 6 9 %d\nsee\ndisk\ndirty\n", n), want)
		put := impl.LinesRun(sixteen + fmt.Sprintf("fall 6 9 %d\nput 6 9\nput 1 7\n", n))
		if put != "all 7 2 3 4 0 9\n" {
			t.Errorf("behind a fall at %d: %q", n, put)
		}
	}
	for _, n := range []int{1, 2, 7, 60, 61, 100, 999} {
		mustTell(t, fmt.Sprintf("fall 3 8 %d\nsee\n", n), "0 d38 - - -\n"+clearBlocks[10:]+"all 0 0 8 0 0 0\n")
	}
}

func TestFlushAndFillWhereThereIsNothingToDo(t *testing.T) {
	for _, text := range []string{"", "fill 2\n", "put 2 5\nflush 2\n", "put 2 5\nall\n", "fill 2\n" + putLines(14, 1)} {
		for _, line := range []string{"flush 2\n", "flush 3\n", "flush 0\n", "flush 7\n", "fill 0\n", "fill 7\n"} {
			mustTellSame(t, text+"see\ndisk\ndirty\n", text+line+"see\ndisk\ndirty\n")
		}
	}
	mustTellSame(t, "put 2 5\nsee\n", "put 2 5\nfill 2\nsee\n")
}

func TestMoreLinesThanAPlayHasEvents(t *testing.T) {
	for _, line := range []string{"put 2 3", "see", "disk", "all", "fill 1", "flush 1", "hello", ""} {
		most := 600 / (len(line) + 1)
		for _, howMany := range []int{59, 60, 61, most} {
			mustLines(t, strings.Repeat(line+"\n", min(howMany, most)))
		}
	}
	mustTell(t, strings.Repeat("all\n", 61)+"put 1 2\n", "all 2 0 0 0 0 0\n")
	mustTell(t, strings.Repeat("put 2 3\n", 74)+"put 2 4\n", "all 0 4 0 0 0 0\n")
}

func TestNoTextHangsOnAnotherOne(t *testing.T) {
	for _, text := range textsOf(80, 600) {
		told := mustLines(t, text)
		mustTell(t, "", noneOfAll)
		mustTell(t, strings.Repeat("x", 601), "too long\n")
		mustTell(t, "see\ndisk\ndirty\n", clearBlocks+"disk 0 0 0 0 0 0\ndirty\n"+noneOfAll)
		mustTell(t, text, told)
	}
}

func TestTextsAtOnce(t *testing.T) {
	texts := textsOf(80, 600)
	answers := make(chan string, len(texts))
	for _, text := range texts {
		go func() {
			fault := ""
			if told := impl.LinesRun(text); told != wantLines(text) {
				fault = fmt.Sprintf("%q tells %q", text, told)
			}
			answers <- fault
		}()
	}
	for range texts {
		if fault := <-answers; fault != "" {
			t.Error(fault)
		}
	}
}
