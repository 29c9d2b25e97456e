package tree

import (
	"gantlet/api"
	"gantlet/num"
)

// room tells how many nodes are left of so many behind t's; below 0, if t may not be. The
// nodes that are left, and the kids that a node may have, bound the way through a tree,
// whatever it is made of: its lists may share memory, so that it is much larger than that.
func room(t api.Tree, left int) int {
	if left <= 0 || !isNode(t) {
		return -1
	}
	left--
	for _, kid := range t.Kids {
		left = room(kid, left)
	}
	return left
}

// isNode tells whether a tree's own node may be, whatever its kids are.
func isNode(t api.Tree) bool {
	return len(t.Kids) == arity(t.Op) && mayHave(t.Op, t.N)
}

// mayHave tells whether an op may have that N.
func mayHave(op int, n int64) bool {
	switch {
	case op == api.RCon:
		return true
	case indices.has(op):
		return n >= 0
	}
	return n == 0
}

// value tells the number that a pure tree is. num knows all ops that stand in such a one,
// so that it tells no error.
func value(t api.Tree) int64 {
	n := t.N
	switch arity(t.Op) {
	case 1:
		n, _ = num.Un(t.Op, value(t.Kids[0]))
	case 2:
		n, _ = num.Bin(t.Op, value(t.Kids[0]), value(t.Kids[1]))
	}
	return n
}
