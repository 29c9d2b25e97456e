package tree

import (
	"strconv"
	"strings"

	"gantlet/api"
)

// words are the ops' words.
var words = [...]string{
	api.RCon:     "con",
	api.RTmp:     "tmp",
	api.RLoc:     "loc",
	api.RGlo:     "glo",
	api.RLoad8:   "load8",
	api.RLoad16:  "load16",
	api.RLoad32:  "load32",
	api.RLoad64:  "load64",
	api.RLoadU8:  "loadu8",
	api.RLoadU16: "loadu16",
	api.RLoadU32: "loadu32",
	api.RAdd:     "add",
	api.RSub:     "sub",
	api.RMul:     "mul",
	api.RDiv:     "div",
	api.RDivU:    "divu",
	api.RRem:     "rem",
	api.RRemU:    "remu",
	api.RAnd:     "and",
	api.ROr:      "or",
	api.RXor:     "xor",
	api.RShl:     "shl",
	api.RShr:     "shr",
	api.RSar:     "sar",
	api.REq:      "eq",
	api.RNe:      "ne",
	api.RLt:      "lt",
	api.RLtU:     "ltu",
	api.RLe:      "le",
	api.RLeU:     "leu",
	api.RExt8:    "ext8",
	api.RExt16:   "ext16",
	api.RExt32:   "ext32",
	api.RZext8:   "zext8",
	api.RZext16:  "zext16",
	api.RZext32:  "zext32",
}

// label is a word with zeros behind it, or the begin of a longer one. No two ops' words
// have the same.
type label [7]byte

func labelOf(word string) label {
	var l label
	copy(l[:], word)
	return l
}

// opsByWord tells of each word's label the op.
func opsByWord() map[label]int {
	m := map[label]int{}
	for op := api.RCon; op <= api.RZext32; op++ {
		m[labelOf(words[op])] = op
	}
	return m
}

// write writes a tree that may be.
func write(b *strings.Builder, t api.Tree) {
	b.WriteString(words[t.Op])
	b.WriteByte('(')
	if leaves.has(t.Op) {
		b.WriteString(strconv.FormatInt(t.N, 10))
	}
	for i, kid := range t.Kids {
		if i > 0 {
			b.WriteString(", ")
		}
		write(b, kid)
	}
	b.WriteByte(')')
}

// reader reads the text of a tree from the front. It reads some tree from whichever text,
// with RNone in it where it finds no op.
type reader struct {
	rest string
	room int // how many nodes may come yet
	ops  map[label]int
}

func (r *reader) tree() api.Tree {
	t := api.Tree{Op: r.op()}
	switch n := arity(t.Op); n {
	case 0:
		t.N = r.number()
	case 1, 2:
		t.Kids = r.kids(n)
	}
	return t
}

// op reads a word and the bracket behind it. Where there is no room for a node it finds
// none: so no text leads to more than there is room for.
func (r *reader) op() int {
	op := r.ops[labelOf(r.upTo("("))]
	if op == api.RNone || r.room == 0 {
		return api.RNone
	}
	r.room--
	return op
}

// number reads a number and the bracket behind it; what is none counts as some number.
func (r *reader) number() int64 {
	n, _ := strconv.ParseInt(r.upTo(")"), 10, 64)
	return n
}

// kids reads so many trees and the bracket behind them.
func (r *reader) kids(n int) []api.Tree {
	l := make([]api.Tree, n)
	for i := range l {
		if i > 0 {
			r.upTo(", ")
		}
		l[i] = r.tree()
	}
	r.upTo(")")
	return l
}

// upTo reads what stands ahead of a sign, and the sign; all, if it does not come.
func (r *reader) upTo(sign string) string {
	var ahead string
	ahead, r.rest, _ = strings.Cut(r.rest, sign)
	return ahead
}
