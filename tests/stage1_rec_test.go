package tests

import (
	"fmt"
	"math"
	"strings"
	"testing"

	"loop.example/buttery/impl"
)

// okRecs is every record that the document calls ok, reckoned here from its numbers and not by the program.
func okRecs() []impl.Rec {
	var all []impl.Rec
	for _, kind := range []int{1, 2} {
		for seq := 1; seq <= 600; seq++ {
			for addr := 1; addr <= 6; addr++ {
				for val := 0; val <= 9; val++ {
					all = append(all, impl.Rec{Kind: kind, Seq: seq, Addr: addr, Val: val})
				}
			}
		}
	}
	return all
}

// textOf is the text that the document gives an ok record.
func textOf(r impl.Rec) string {
	return fmt.Sprintf("%s %d %d %d", map[int]string{1: "dirty", 2: "clean"}[r.Kind], r.Seq, r.Addr, r.Val)
}

// textsOfRecs is every text that there is, with its record: what is not here must not be read.
func textsOfRecs() map[string]impl.Rec {
	texts := map[string]impl.Rec{}
	for _, r := range okRecs() {
		texts[textOf(r)] = r
	}
	return texts
}

// edgeRecs is records that are ok at the limits, and some between them, with numbers of one, two and three figures.
func edgeRecs() []impl.Rec {
	var all []impl.Rec
	for _, kind := range []int{1, 2} {
		for _, seq := range []int{1, 9, 10, 17, 99, 100, 599, 600} {
			for _, addr := range []int{1, 3, 6} {
				for _, val := range []int{0, 5, 9} {
					all = append(all, impl.Rec{Kind: kind, Seq: seq, Addr: addr, Val: val})
				}
			}
		}
	}
	return all
}

// wrongRecs is records of which one part, and one alone, is not ok.
func wrongRecs() []impl.Rec {
	var all []impl.Rec
	for _, r := range edgeRecs() {
		for _, kind := range []int{0, 3, -1, -2, 257, 258, math.MinInt, math.MaxInt} {
			w := r
			w.Kind = kind
			all = append(all, w)
		}
		for _, seq := range []int{0, 601, -1, -600, 6000, math.MinInt, math.MaxInt} {
			w := r
			w.Seq = seq
			all = append(all, w)
		}
		for _, addr := range []int{0, 7, -1, -6, 11, math.MinInt, math.MaxInt} {
			w := r
			w.Addr = addr
			all = append(all, w)
		}
		for _, val := range []int{-1, 10, -9, 99, math.MinInt, math.MaxInt} {
			w := r
			w.Val = val
			all = append(all, w)
		}
	}
	return all
}

// mustBeNone says that a text is read as nothing and false.
func mustBeNone(t *testing.T, text string) {
	t.Helper()
	if r, ok := impl.RecRead(text); ok || r != (impl.Rec{}) {
		t.Errorf("RecRead(%q) is %v %v, not nothing and false", text, r, ok)
	}
}

// mustBeRead holds a text against all texts that there are.
func mustBeRead(t *testing.T, texts map[string]impl.Rec, text string) {
	t.Helper()
	want, is := texts[text]
	if r, ok := impl.RecRead(text); ok != is || r != want {
		t.Errorf("RecRead(%q) is %v %v, not %v %v", text, r, ok, want, is)
	}
}

func TestRecLimitsAreThoseOfTheDocument(t *testing.T) {
	if impl.AddrMax != 6 || impl.ValMax != 9 || impl.SeqMax != 600 || impl.RecDirty != 1 || impl.RecClean != 2 {
		t.Error(impl.AddrMax, impl.ValMax, impl.SeqMax, impl.RecDirty, impl.RecClean)
	}
}

func TestP1OkRecordsAreReadBack(t *testing.T) {
	for _, r := range okRecs() {
		text := impl.RecText(r)
		if text != textOf(r) {
			t.Fatalf("RecText(%v) is %q, not %q", r, text, textOf(r))
		}
		if back, ok := impl.RecRead(text); !ok || back != r {
			t.Fatalf("RecRead(%q) is %v %v, not %v", text, back, ok, r)
		}
	}
}

func TestP2AChangedTextIsReadJustIfItIsOne(t *testing.T) {
	texts := textsOfRecs()
	for _, r := range edgeRecs() {
		text := textOf(r)
		for at := 0; at <= len(text); at++ {
			for b := 0; b < 256; b++ {
				mustBeRead(t, texts, text[:at]+string([]byte{byte(b)})+text[at:])
				if at < len(text) {
					mustBeRead(t, texts, text[:at]+string([]byte{byte(b)})+text[at+1:])
				}
			}
			if at < len(text) {
				mustBeRead(t, texts, text[:at]+text[at+1:])
			}
		}
	}
}

func TestP2WordsOfAllSortsAreReadJustIfTheyAreAText(t *testing.T) {
	texts := textsOfRecs()
	kinds := []string{"dirty", "clean", "", "dirt", "Dirty", "CLEAN", "cleans", "1", "2", "dirty\x00", "\tclean"}
	numbers := []string{"0", "1", "3", "6", "7", "9", "10", "17", "600", "601", "00", "01", "001", "06", "0600",
		"+1", "-1", "-0", "+0", "", "x", "1.0", "1e0", "0x1", "0b1", "1_0", "1\n", "\t1", "\u0661", "\xff", "6000"}
	for _, kind := range kinds {
		for _, seq := range numbers {
			for _, addr := range numbers {
				for _, val := range numbers {
					mustBeRead(t, texts, kind+" "+seq+" "+addr+" "+val)
				}
			}
		}
	}
}

func TestP2WhatIsReadIsOkAndItsOwnText(t *testing.T) {
	for text := range textsOfRecs() {
		r, ok := impl.RecRead(text)
		if !ok || !impl.RecOk(r) || impl.RecText(r) != text {
			t.Fatalf("RecRead(%q) is %v %v: ok %v, text %q", text, r, ok, impl.RecOk(r), impl.RecText(r))
		}
	}
}

func TestP2WrongTextsAreNone(t *testing.T) {
	for _, text := range []string{
		"", " ", "   ", "dirty", "dirty ", "dirty   ", "dirty 1", "dirty 1 1", "dirty 1 1 ", "clean 1 1 1 1",
		"clean 01 1 1", "clean 1 01 1", "clean 1 1 01", "clean 1 1 00", "dirty 0600 6 9", "dirty 000000000001 1 1",
		"dirty +1 1 1", "dirty 1 +1 1", "dirty 1 1 +1", "dirty 1 1 -0", "dirty -1 1 1", "dirty 1 -1 1", "dirty 1 1 -1",
		"dirty 6000 1 1", "dirty 1 11 1", "dirty 1 1 11", "dirty 4294967297 1 1", "dirty 1 4294967297 1", "dirty 1 1 4294967296",
		"dirty 99999999999 1 1", "dirty 18446744073709551617 1 1", "dirty 1 18446744073709551617 1", "dirty 1 1 18446744073709551616",
		"dirty 0 1 1", "dirty 601 1 1", "dirty 1 0 1", "dirty 1 7 1", "dirty 1 1 10", "dirty 1 1 -1",
		"dirt 1 1 1", "Dirty 1 1 1", "cleann 1 1 1", "torn 1 1 1", "1 1 1 1", " 1 1 1", "1 1 1",
		" dirty 1 1 1", "dirty  1 1 1", "dirty 1  1 1", "dirty 1 1  1", "dirty 1 1 1 ", "dirty1 1 1", "dirty 11 1",
		"dirty\t1\t1\t1", "dirty 1 1 1\n", "\ndirty 1 1 1", "dirty\u00a01 1 1", "dirty \u0661 1 1", "dirty \uff11 1 1",
		"\xff\xfe", "dirty \xff 1 1", "dirty 1 1 1\x00", "\x00dirty 1 1 1", "\xef\xbb\xbfdirty 1 1 1",
	} {
		mustBeNone(t, text)
	}
}

func TestP2LongTextsAreNone(t *testing.T) {
	for _, size := range []int{19, 20, 21, 22, 600, 1 << 20} {
		for _, filler := range []string{" ", "0", "1", "\x00", "\xff", "dirty 1 1 1 "} {
			fill := strings.Repeat(filler, size)[:size-len("dirty 1 1 1")]
			mustBeNone(t, fill+"dirty 1 1 1")
			mustBeNone(t, "dirty 1 1 1"+fill)
			mustBeNone(t, "dirty "+fill+"1 1 1")
			mustBeNone(t, "dirty 1 1 "+fill+"1")
		}
	}
}

func TestP2AllTextsOfUpToTwoBytesAreNone(t *testing.T) {
	for a := 0; a < 256; a++ {
		mustBeNone(t, string([]byte{byte(a)}))
		for b := 0; b < 256; b++ {
			mustBeNone(t, string([]byte{byte(a), byte(b)}))
		}
	}
}

func TestP3AndP6TextsDifferIfRecordsDo(t *testing.T) {
	first := map[string]impl.Rec{}
	for _, r := range okRecs() {
		text := impl.RecText(r)
		if was, is := first[text]; is {
			t.Fatalf("%v and %v have one text, %q", was, r, text)
		}
		first[text] = r
	}
	for _, r := range edgeRecs() {
		if impl.RecText(r) != impl.RecText(r) {
			t.Errorf("%v has two texts", r)
		}
	}
}

func TestP4OkOfBothKindsAndAllNumbers(t *testing.T) {
	for _, r := range okRecs() {
		if !impl.RecOk(r) {
			t.Fatalf("RecOk(%v) is false", r)
		}
	}
}

func TestP4NotOkWithANumberThatThereIsNot(t *testing.T) {
	for _, r := range append(wrongRecs(), impl.Rec{}) {
		if impl.RecOk(r) {
			t.Errorf("RecOk(%v) is true", r)
		}
		if text := impl.RecText(r); text != "" {
			t.Errorf("RecText(%v) is %q, not empty", r, text)
		}
	}
}

func TestP4WhatIsNotOkIsNotReadEither(t *testing.T) {
	for _, r := range wrongRecs() {
		word := "dirty"
		if r.Kind == impl.RecClean {
			word = "clean"
		} else if r.Kind != impl.RecDirty {
			word = fmt.Sprint(r.Kind)
		}
		mustBeNone(t, fmt.Sprintf("%s %d %d %d", word, r.Seq, r.Addr, r.Val))
	}
}

func TestP5AByteLessOrABlankMore(t *testing.T) {
	for _, r := range okRecs() {
		text := impl.RecText(r)
		if text == "" {
			t.Fatalf("%v has no text", r)
		}
		if less, ok := impl.RecRead(text[:len(text)-1]); ok && less == r {
			t.Fatalf("%q is read as %v, whose text it is not", text[:len(text)-1], r)
		}
		for at := 0; at <= len(text); at++ {
			if more, ok := impl.RecRead(text[:at] + " " + text[at:]); ok || more != (impl.Rec{}) {
				t.Fatalf("%q with a blank more at %d is read as %v", text, at, more)
			}
		}
	}
}

func TestP6ATextHasThreeBlanks(t *testing.T) {
	for _, r := range okRecs() {
		text := impl.RecText(r)
		if n := strings.Count(text, " "); n != 3 || len(strings.Fields(text)) != 4 {
			t.Fatalf("%q has %d blanks", text, n)
		}
	}
}

func TestP6TextsOfOtherNumbersDiffer(t *testing.T) {
	for _, r := range edgeRecs() {
		text := impl.RecText(r)
		for seq := 1; seq <= impl.SeqMax; seq++ {
			other := r
			other.Seq = seq
			if (impl.RecText(other) == text) != (seq == r.Seq) {
				t.Errorf("%v and %v: %q and %q", r, other, text, impl.RecText(other))
			}
		}
	}
}
