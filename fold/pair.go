package fold

import (
	"gantlet/api"
	"gantlet/num"
)

// What follows, here and for each op in a file of its own, tells a tree that tells as much as is asked
// of an op of folded trees, and has no more nodes than that op of them.

// one tells an op of one tree, as it is.
func (f *folder) one(op int, a label) label {
	return f.label(node{op: op, kids: [2]label{a}})
}

// two tells an op of two trees as it is, but where just one number can come of it.
func (f *folder) two(op int, a, b label) label {
	l := f.label(node{op: op, kids: [2]label{a, b}})
	if s := f.of(l).span; s.lo == s.hi {
		return f.con(s.lo)
	}
	return l
}

func (f *folder) pair(op int, a, b label, asked int) label {
	x, isX := f.constant(a)
	y, isY := f.constant(b)
	if isX && isY {
		return f.con(reckoned(op, x, y))
	}
	if isX && symmetric.has(op) {
		a, b = b, a
	}
	switch op {
	case api.RAdd:
		return f.sum(a, b, asked)
	case api.RSub:
		return f.difference(a, b, asked)
	case api.RMul:
		return f.product(a, b, asked)
	case api.RDiv, api.RDivU, api.RRem, api.RRemU:
		return f.quotient(op, a, b)
	case api.RAnd, api.ROr, api.RXor:
		return f.mixed(op, a, b, asked)
	case api.RShl, api.RShr, api.RSar:
		return f.shifted(op, a, b, asked)
	}
	return f.compared(op, a, b)
}

// reckoned tells what an op makes of two numbers. All that stand here are num's.
func reckoned(op int, a, b int64) int64 {
	n, _ := num.Bin(op, a, b)
	return n
}

// cut tells the lowest bits of a number.
func (f *folder) cut(op int, a label) label {
	s, p := shapes[op], f.of(a)
	within := shapes[p.op]
	switch {
	case p.op == api.RCon:
		n, _ := num.Un(op, p.n)
		return f.con(n)
	case s.span().holds(p.span):
		return a
	case loads.has(p.op) && within.bits == s.bits:
		return f.one(f.loadOf[s], p.kids[0])
	case cuts.has(p.op) && within.bits >= s.bits:
		return f.cut(op, p.kids[0])
	}
	if x, n, ok := f.withConstant(api.RAnd, a); ok && !s.signed {
		return f.pair(api.RAnd, x, f.con(n&s.span().hi), whole)
	}
	return f.one(op, a)
}
