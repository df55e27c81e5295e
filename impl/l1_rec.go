package impl

import (
	"strconv"
	"strings"
)

// Limits: addresses, values, and the numbers of records.
const (
	AddrMax = 6
	ValMax  = 9
	SeqMax  = 600
)

// Kinds of records: of a value that is here alone, and of one that the slow disk has, too.
const (
	RecDirty = 1
	RecClean = 2
)

// Rec is a record: of which kind, its number, and which value of which address.
type Rec struct {
	Kind int
	Seq  int
	Addr int
	Val  int
}

// recTextMax bounds a text ahead of its being cut into words, so that a long one costs nothing.
const recTextMax = 20

// The words that tell the kind of a record in its text.
const (
	wordDirty = "dirty"
	wordClean = "clean"
)

// recNumbers is what a record has, whatever its kind.
type recNumbers struct {
	seq  int
	addr int
	val  int
}

// recKept is a record whose kind is its type, so that one of no kind cannot be made; it is nil instead.
type recKept interface {
	numbers() recNumbers
}

type keptDirty struct{ told recNumbers }

type keptClean struct{ told recNumbers }

func (k keptDirty) numbers() recNumbers { return k.told }

func (k keptClean) numbers() recNumbers { return k.told }

// keptOf is the record as its kind keeps it; nil, if it is of no kind.
func keptOf(r Rec) recKept {
	told := recNumbers{seq: r.Seq, addr: r.Addr, val: r.Val}
	switch r.Kind {
	case RecDirty:
		return keptDirty{told}
	case RecClean:
		return keptClean{told}
	}
	return nil
}

// keptWord is the word of the record's kind; empty, if it is of none.
func keptWord(k recKept) string {
	switch k.(type) {
	case keptDirty:
		return wordDirty
	case keptClean:
		return wordClean
	}
	return ""
}

// keptOk says whether the record is of a kind, and its numbers are within their limits.
func keptOk(k recKept) bool {
	if k == nil {
		return false
	}
	n := k.numbers()
	return within(n.seq, 1, SeqMax) && within(n.addr, 1, AddrMax) && within(n.val, 0, ValMax)
}

// within says whether n is least to most, both of them included.
func within(n int, least int, most int) bool {
	return least <= n && n <= most
}

// kindOfWord is the kind that a word tells; 0, which no kind is, if it tells none.
func kindOfWord(word string) int {
	switch word {
	case wordDirty:
		return RecDirty
	case wordClean:
		return RecClean
	}
	return 0
}

// recOfWords is the record that four words tell; it need not be ok, nor the words the ones that it is written with.
func recOfWords(words []string) (Rec, bool) {
	if len(words) != 4 {
		return Rec{}, false
	}
	seq, seqErr := strconv.Atoi(words[1])
	addr, addrErr := strconv.Atoi(words[2])
	val, valErr := strconv.Atoi(words[3])
	if seqErr != nil || addrErr != nil || valErr != nil {
		return Rec{}, false
	}
	return Rec{Kind: kindOfWord(words[0]), Seq: seq, Addr: addr, Val: val}, true
}

// RecOk says whether a record is ok.
func RecOk(r Rec) bool {
	return keptOk(keptOf(r))
}

// RecText is the text of a record.
func RecText(r Rec) string {
	k := keptOf(r)
	if !keptOk(k) {
		return ""
	}
	n := k.numbers()
	return keptWord(k) + " " + strconv.Itoa(n.seq) + " " + strconv.Itoa(n.addr) + " " + strconv.Itoa(n.val)
}

// RecRead is the record of a text.
func RecRead(text string) (Rec, bool) {
	if len(text) > recTextMax {
		return Rec{}, false
	}
	r, ok := recOfWords(strings.Split(text, " "))
	// A number may be read that is not written so (01, +1, -0): just the record's own text is one.
	if !ok || RecText(r) != text {
		return Rec{}, false
	}
	return r, true
}
