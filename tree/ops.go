package tree

import "gantlet/api"

// ops is a set of ops: bit 1 << op stands for each of them.
type ops uint64

const (
	leaves ops = 1<<(api.RGlo+1) - 1<<api.RCon
	loads  ops = 1<<(api.RLoadU32+1) - 1<<api.RLoad8
	pairs  ops = 1<<(api.RLeU+1) - 1<<api.RAdd
	exts   ops = 1<<(api.RZext32+1) - 1<<api.RExt8

	// indices are those whose N is a place in a list.
	indices = leaves &^ (1 << api.RCon)
	// impure are those whose value does not hang on their tree alone.
	impure = indices | loads
)

// has tells whether an op is in a set. Without its sign an op below 0 is a large one, and
// by so much a set is shifted to nothing.
func (s ops) has(op int) bool {
	return s>>uint(op)&1 == 1
}

// arity tells how many kids an op has; -1, if it is none.
func arity(op int) int {
	switch {
	case leaves.has(op):
		return 0
	case (loads | exts).has(op):
		return 1
	case pairs.has(op):
		return 2
	}
	return -1
}

// opsOf tells the ops that stand in a tree that may be.
func opsOf(t api.Tree) ops {
	s := ops(1) << t.Op
	for _, kid := range t.Kids {
		s |= opsOf(kid)
	}
	return s
}
