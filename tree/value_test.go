package tree_test

import (
	"slices"
	"testing"

	"gantlet/api"
	"gantlet/tree"
)

// evals holds that a tree is pure, and which number it is.
func evals(t *testing.T, x api.Tree, want int64) {
	t.Helper()
	if pure, err := tree.Pure(x); !pure || err != api.OK {
		t.Errorf("Pure(%s): %v, %d", textOf(x), pure, err)
	}
	if n, err := tree.Eval(x); n != want || err != api.OK {
		t.Errorf("Eval(%s): %d, %d; should be %d", textOf(x), n, err, want)
	}
}

// TestEvalSome is of P6.1: numbers worked out by hand, of each op.
func TestEvalSome(t *testing.T) {
	for _, n := range edges {
		evals(t, con(n), n)
	}
	for _, c := range []struct {
		op         int
		a, b, want int64
	}{
		{api.RAdd, 1, 2, 3}, {api.RAdd, most, 1, least}, {api.RSub, 1, 2, -1}, {api.RSub, least, 1, most},
		{api.RMul, -6, 7, -42}, {api.RMul, 1 << 32, 1 << 32, 0}, {api.RMul, least, -1, least},
		{api.RDiv, 7, 2, 3}, {api.RDiv, -7, 2, -3}, {api.RDiv, 7, -2, -3}, {api.RDivU, 7, 2, 3}, {api.RDivU, -7, 2, most - 3},
		{api.RRem, 7, 4, 3}, {api.RRem, -7, 4, -3}, {api.RRem, 7, -4, 3}, {api.RRemU, 7, 4, 3}, {api.RRemU, -7, 4, 1},
		{api.RDiv, 5, 0, -1}, {api.RDiv, -5, 0, -1}, {api.RDiv, 0, 0, -1}, {api.RDivU, 5, 0, -1}, {api.RDivU, 0, 0, -1},
		{api.RRem, 5, 0, 5}, {api.RRem, -5, 0, -5}, {api.RRem, least, 0, least}, {api.RRemU, 5, 0, 5}, {api.RRemU, -5, 0, -5},
		{api.RDiv, least, -1, least}, {api.RRem, least, -1, 0}, {api.RDivU, least, -1, 0}, {api.RRemU, least, -1, least},
		{api.RAnd, 12, 10, 8}, {api.ROr, 12, 10, 14}, {api.RXor, 12, 10, 6}, {api.RAnd, -1, least, least}, {api.RXor, -1, 5, -6},
		{api.RShl, 3, 4, 48}, {api.RShl, 3, 63, least}, {api.RShl, 3, 64, 3}, {api.RShl, 3, 65, 6}, {api.RShl, 3, -1, least}, {api.RShl, 3, 128 + 4, 48}, {api.RShl, 3, least, 3}, {api.RShl, 3, most, least},
		{api.RShr, -1, 60, 15}, {api.RShr, -1, 64, -1}, {api.RShr, -1, 65, most}, {api.RShr, -2, -1, 1}, {api.RShr, -1, 256 + 63, 1}, {api.RShr, 40, 1<<32 + 3, 5},
		{api.RSar, -17, 4, -2}, {api.RSar, 17, 4, 1}, {api.RSar, -17, 64, -17}, {api.RSar, -17, 68, -2}, {api.RSar, least, -1, -1}, {api.RSar, most, -2, 1}, {api.RSar, -17, 1 << 40, -17},
		{api.REq, 5, 5, 1}, {api.REq, 5, -5, 0}, {api.RNe, 5, 5, 0}, {api.RNe, 5, -5, 1},
		{api.RLt, -1, 1, 1}, {api.RLt, 1, -1, 0}, {api.RLt, 1, 1, 0}, {api.RLtU, -1, 1, 0}, {api.RLtU, 1, -1, 1}, {api.RLtU, 1, 1, 0},
		{api.RLe, -1, 1, 1}, {api.RLe, 1, -1, 0}, {api.RLe, 1, 1, 1}, {api.RLeU, -1, 1, 0}, {api.RLeU, 1, -1, 1}, {api.RLeU, 1, 1, 1},
	} {
		evals(t, of(c.op, con(c.a), con(c.b)), c.want)
	}
	for _, c := range []struct {
		op      int
		a, want int64
	}{
		{api.RExt8, 128, -128}, {api.RExt8, 0x17f, 127}, {api.RExt16, 32768, -32768}, {api.RExt16, -32769, 32767},
		{api.RExt32, 1 << 31, -1 << 31}, {api.RExt32, 1<<32 + 5, 5}, {api.RZext8, -1, 255}, {api.RZext8, 256, 0},
		{api.RZext16, -1, 65535}, {api.RZext16, 65536, 0}, {api.RZext32, -1, 1<<32 - 1}, {api.RZext32, least, 0},
	} {
		evals(t, of(c.op, con(c.a)), c.want)
	}
}

// TestEvalWithin is of P6.1: what a kid is goes into what is made of it, each in its place.
func TestEvalWithin(t *testing.T) {
	sub := of(api.RSub, con(10), of(api.RSub, con(3), con(9)))
	evals(t, sub, 16)
	evals(t, of(api.RSub, of(api.RSub, con(10), con(3)), con(9)), -2)
	evals(t, of(api.RDiv, of(api.RMul, sub, sub), of(api.RRem, con(29), sub)), 19)
	evals(t, of(api.RZext8, of(api.RExt8, con(200))), 200)
	evals(t, of(api.RExt8, of(api.RZext16, of(api.RShr, con(-1), con(56)))), -1)
	evals(t, of(api.RDiv, con(1), of(api.RXor, con(7), con(7))), -1)
	evals(t, of(api.RRem, of(api.RShl, con(1), con(63)), of(api.RSub, con(0), con(1))), 0)
	evals(t, of(api.RShl, con(1), of(api.RAdd, con(60), con(8))), 16)
	x := con(0)
	for i := range int64(99) {
		x = of(api.RAdd, x, con(i))
	}
	evals(t, x, 99*98/2)
	for range api.MaxTree - 199 {
		x = of(api.RExt8, x)
	}
	evals(t, x, -13)
}

// reckon tells what a pure tree is, by rules of its own.
func reckon(x api.Tree) int64 {
	var a, b int64
	if len(x.Kids) > 0 {
		a = reckon(x.Kids[0])
	}
	if len(x.Kids) > 1 {
		b = reckon(x.Kids[1])
	}
	is := func(holds bool) int64 {
		if holds {
			return 1
		}
		return 0
	}
	switch x.Op {
	case api.RCon:
		return x.N
	case api.RAdd:
		return a + b
	case api.RSub:
		return a - b
	case api.RMul:
		return a * b
	case api.RAnd:
		return a & b
	case api.ROr:
		return a | b
	case api.RXor:
		return a ^ b
	case api.RShl:
		return a << (b & 63)
	case api.RShr:
		return int64(uint64(a) >> (b & 63))
	case api.RSar:
		return a >> (b & 63)
	case api.REq:
		return is(a == b)
	case api.RNe:
		return is(a != b)
	case api.RLt:
		return is(a < b)
	case api.RLtU:
		return is(uint64(a) < uint64(b))
	case api.RLe:
		return is(a <= b)
	case api.RLeU:
		return is(uint64(a) <= uint64(b))
	case api.RExt8:
		return int64(int8(a))
	case api.RExt16:
		return int64(int16(a))
	case api.RExt32:
		return int64(int32(a))
	case api.RZext8:
		return int64(uint8(a))
	case api.RZext16:
		return int64(uint16(a))
	case api.RZext32:
		return int64(uint32(a))
	}
	return divided(x.Op, a, b)
}

func divided(op int, a, b int64) int64 {
	whole := op == api.RDiv || op == api.RDivU
	switch {
	case b == 0 && whole:
		return -1
	case b == 0:
		return a
	case op == api.RDiv:
		return a / b
	case op == api.RRem:
		return a - a/b*b
	case whole:
		return int64(uint64(a) / uint64(b))
	}
	return int64(uint64(a) - uint64(a)/uint64(b)*uint64(b))
}

// TestEvalMade is of P6.1: pure trees made at random, of all sizes.
func TestEvalMade(t *testing.T) {
	below := mix(88172645463325252)
	for i := range 8000 {
		x := made(below, 1+i%api.MaxTree, isPure)
		evals(t, x, reckon(x))
		y := made(below, 1+i%9, isPure)
		evals(t, y, reckon(y))
	}
}

// TestImpure is of P6.1: a load, RTmp, RLoc or RGlo makes a tree impure, wherever it stands,
// and then it has no number.
func TestImpure(t *testing.T) {
	for _, k := range kinds {
		x := filled(k.op, con(5))
		for _, y := range places(x) {
			isTaken(t, y)
		}
	}
	below := mix(99194853094755497)
	for i := range 3000 {
		x := made(below, 2+i%(api.MaxTree-2), isPure)
		leaves := slices.DeleteFunc(nodesIn(&x), func(n *api.Tree) bool { return len(n.Kids) > 0 })
		n := leaves[below(len(leaves))]
		old := *n
		evals(t, x, reckon(x))
		for op := api.RTmp; op <= api.RLoadU32; op++ {
			*n = filled(op, con(5))
			if pure, err := tree.Pure(x); pure || err != api.OK {
				t.Errorf("Pure(%s): %v, %d", show(x), pure, err)
			}
			if m, err := tree.Eval(x); m != 0 || err != api.ErrForm {
				t.Errorf("Eval(%s): %d, %d", show(x), m, err)
			}
		}
		*n = old
		evals(t, x, reckon(x))
	}
}
