package opt

import "gantlet/api"

// element is how a load's op finds an element: so many bytes, with the sign or without.
type element struct {
	size     int
	unsigned bool
}

// elements are those of loads; all other ops have the zero one.
var elements = [...]element{
	api.RLoad8:   {1, false},
	api.RLoad16:  {2, false},
	api.RLoad32:  {4, false},
	api.RLoad64:  {8, false},
	api.RLoadU8:  {1, true},
	api.RLoadU16: {2, true},
	api.RLoadU32: {4, true},
	api.RZext32:  {},
}

// sizeOf tells how many bytes a load's op loads; 0, if it is none.
func sizeOf(op int) int {
	return elements[op].size
}

// loadOf tells the op that loads so many bytes, with their sign.
func loadOf(size int) int {
	switch size {
	case 1:
		return api.RLoad8
	case 2:
		return api.RLoad16
	case 4:
		return api.RLoad32
	}
	return api.RLoad64
}

// cutOf tells the op that makes of a number what a load tells where it was stored; RNone, if that is
// the number itself.
func cutOf(load int) int {
	switch load {
	case api.RLoad8:
		return api.RExt8
	case api.RLoad16:
		return api.RExt16
	case api.RLoad32:
		return api.RExt32
	case api.RLoadU8:
		return api.RZext8
	case api.RLoadU16:
		return api.RZext16
	case api.RLoadU32:
		return api.RZext32
	}
	return api.RNone
}

// cut tells a tree as a load tells it.
func cut(load int, t api.Tree) api.Tree {
	op := cutOf(load)
	if op == api.RNone {
		return t
	}
	return api.Tree{Op: op, Kids: []api.Tree{t}}
}

func isCut(op int) bool {
	return op >= api.RExt8 && op <= api.RZext32
}

func isCompare(op int) bool {
	return op >= api.REq && op <= api.RLeU
}

// isSymmetric tells whether an op tells the same with its kids turned.
func isSymmetric(op int) bool {
	switch op {
	case api.RAdd, api.RMul, api.RAnd, api.ROr, api.RXor, api.REq, api.RNe:
		return true
	}
	return false
}
