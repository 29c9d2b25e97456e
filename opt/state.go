package opt

import (
	"maps"
	"slices"

	"gantlet/api"
)

// What stands as block, step or part of an origin where that is none of a number.
const (
	outside = -1 // block: told to the function
	large   = -2 // block: a tree of too many nodes
	looked  = -3 // block: a load on a way that is only looked at
	result  = -1 // part: what the step itself gets
)

// cell is an element of memory.
type cell struct {
	at   label
	size int
}

// state is what is known at some place of a function: of each temporary the tree that it tells, of
// elements of memory what a load with their sign tells, of trees the numbers that they are there.
type state struct {
	temps []label
	cells map[cell]label
	known map[label]label
}

func (s state) again() state {
	return state{slices.Clone(s.temps), maps.Clone(s.cells), maps.Clone(s.known)}
}

// resolved tells the number that a tree is known to be, or else that tree.
func (s state) resolved(l label) label {
	if n := s.known[l]; n != none {
		return n
	}
	return l
}

// leave leaves in a what b has, too, and tells whether that is less.
func leave[K comparable](a, b map[K]label) bool {
	before := len(a)
	maps.DeleteFunc(a, func(k K, l label) bool { return b[k] != l })
	return len(a) < before
}

// learn notes that a tree, by which a branch goes, is 0 or not.
func (s state) learn(f *forest, l label, isZero bool) {
	if isZero {
		s.note(f, l, 0)
		s.note(f, f.two(api.RNe, l, f.con(0)), 0)
		return
	}
	s.note(f, f.two(api.RNe, l, f.con(0)), 1)
}

// note notes that a tree is a number. A comparison is then known the other way round, too, and may tell
// what another tree is.
func (s state) note(f *forest, l label, n int64) {
	if f.isFixed(l) {
		return
	}
	s.known[l] = f.con(n)
	p := f.of(l).node
	if !isCompare(p.op) {
		return
	}
	s.known[f.two(api.REq, l, f.con(0))] = f.con(1 - n)
	isSame := p.op == api.REq && n == 1 || p.op == api.RNe && n == 0
	if isSame && f.isCon(p.kids[1]) {
		s.note(f, p.kids[0], f.of(p.kids[1]).n)
	}
}
