package model_test

import (
	"math/big"

	"gantlet/api"
)

// What comes of numbers is told here once more: whole numbers without a width, each brought
// into its type's bounds from there.

// integer is a type's bounds.
type integer struct {
	name   string
	bits   uint
	signed bool
}

// integers tells all of them, by api's kinds.
func integers() map[int]integer {
	return map[int]integer{
		api.TI8: {"char", 8, true}, api.TU8: {"unsigned char", 8, false},
		api.TI16: {"short", 16, true}, api.TU16: {"unsigned short", 16, false},
		api.TI32: {"int", 32, true}, api.TU32: {"unsigned int", 32, false},
		api.TI64: {"long", 64, true}, api.TU64: {"unsigned long", 64, false},
	}
}

// within tells the one number that a type has of those that are so many widths apart.
func within(kind int, n *big.Int) *big.Int {
	i := integers()[kind]
	width := new(big.Int).Lsh(big.NewInt(1), i.bits)
	n = new(big.Int).Mod(n, width)
	if i.signed && n.Bit(int(i.bits)-1) == 1 {
		n.Sub(n, width)
	}
	return n
}

// joined tells the type in which two are reckoned with.
func joined(a, b int) int {
	for _, kind := range []int{api.TU64, api.TI64, api.TU32} {
		if a == kind || b == kind {
			return kind
		}
	}
	return api.TI32
}

// kindOfBoth tells the type of what an op makes of two integers.
func kindOfBoth(op, a, b int) int {
	switch op {
	case api.EShl, api.EShr:
		return joined(a, a)
	case api.ELt, api.ELe, api.EGt, api.EGe, api.EEq, api.ENe:
		return api.TI32
	}
	return joined(a, b)
}

// ofBoth tells what an op makes of two integers of types.
func ofBoth(op, a, b int, x, y *big.Int) *big.Int {
	in := joined(a, b)
	if op == api.EShl || op == api.EShr {
		in = joined(a, a)
		y = new(big.Int).Mod(y, big.NewInt(int64(integers()[in].bits)))
	} else {
		y = within(in, y)
	}
	x = within(in, x)
	n := new(big.Int)
	switch op {
	case api.EMul:
		n.Mul(x, y)
	case api.EDiv:
		n.SetInt64(-1)
		if y.Sign() != 0 {
			n.Quo(x, y)
		}
	case api.EMod:
		n.Set(x)
		if y.Sign() != 0 {
			n.Rem(x, y)
		}
	case api.EAdd:
		n.Add(x, y)
	case api.ESub:
		n.Sub(x, y)
	case api.EShl:
		n.Lsh(x, uint(y.Int64()))
	case api.EShr:
		n.Rsh(x, uint(y.Int64()))
	case api.EAnd:
		n.And(x, y)
	case api.EXor:
		n.Xor(x, y)
	case api.EOr:
		n.Or(x, y)
	default:
		return ofBool(compares(op, x.Cmp(y)))
	}
	return within(in, n)
}

// compares tells whether an op holds of two, the first of which is below (-1), the same as, or
// above (1) the other one.
func compares(op, order int) bool {
	return order < 0 && (op == api.ELt || op == api.ELe || op == api.ENe) ||
		order == 0 && (op == api.ELe || op == api.EGe || op == api.EEq) ||
		order > 0 && (op == api.EGt || op == api.EGe || op == api.ENe)
}

func ofBool(is bool) *big.Int {
	if is {
		return big.NewInt(1)
	}
	return new(big.Int)
}

// asLong tells a number's lowest 64 bits with their sign, as put and get have them.
func asLong(n *big.Int) int64 {
	return within(api.TI64, n).Int64()
}
