package fold_test

import (
	"testing"

	"gantlet/api"
	"gantlet/num"
)

const (
	firstPair, lastPair = api.RAdd, api.RLeU
	firstCut, lastCut   = api.RExt8, api.RZext32
)

// TestPureByHand is of P9.1: numbers worked out by hand.
func TestPureByHand(t *testing.T) {
	for s, want := range map[string]int64{
		"con(-5)":                                       -5,
		"add(con(1), con(2))":                           3,
		"add(con(9223372036854775807), con(1))":         least,
		"sub(con(1), con(2))":                           -1,
		"sub(con(0), con(-9223372036854775808))":        least,
		"mul(con(-6), con(7))":                          -42,
		"mul(con(4294967296), con(4294967296))":         0,
		"div(con(-7), con(2))":                          -3,
		"div(con(7), con(0))":                           -1,
		"div(con(0), con(0))":                           -1,
		"div(con(-9223372036854775808), con(-1))":       least,
		"divu(con(-1), con(2))":                         most,
		"divu(con(0), con(0))":                          -1,
		"rem(con(-7), con(4))":                          -3,
		"rem(con(-7), con(0))":                          -7,
		"rem(con(-9223372036854775808), con(-1))":       0,
		"remu(con(-7), con(4))":                         1,
		"remu(con(-7), con(0))":                         -7,
		"and(con(12), con(10))":                         8,
		"or(con(12), con(10))":                          14,
		"xor(con(12), con(10))":                         6,
		"shl(con(3), con(63))":                          least,
		"shl(con(3), con(64))":                          3,
		"shl(con(3), con(-1))":                          least,
		"shr(con(-1), con(65))":                         most,
		"sar(con(-17), con(68))":                        -2,
		"lt(con(-1), con(0))":                           1,
		"ltu(con(-1), con(0))":                          0,
		"ext8(con(200))":                                -56,
		"zext32(con(-1))":                               1<<32 - 1,
		"ext8(zext16(shr(con(-1), con(56))))":           -1,
		"sub(con(10), sub(con(3), con(9)))":             16,
		"div(con(1), sub(con(7), con(7)))":              -1,
		"shl(con(1), add(con(60), con(8)))":             16,
		"mul(eq(con(3), con(3)), ltu(con(-1), con(5)))": 0,
	} {
		if got := text(folded(t, tr(s))); got != text(con(want)) {
			t.Errorf("%s: %s; should be %d", s, got, want)
		}
	}
}

// TestPure is of P9.1: each op of two numbers and of one becomes what num tells of them.
func TestPure(t *testing.T) {
	for _, a := range edges {
		isFoldedTo(t, con(a), con(a))
		for op := firstCut; op <= lastCut; op++ {
			n, _ := num.Un(op, a)
			isFoldedTo(t, of(op, con(a)), con(n))
		}
		for _, b := range edges {
			for op := firstPair; op <= lastPair; op++ {
				n, _ := num.Bin(op, a, b)
				isFoldedTo(t, of(op, con(a), con(b)), con(n))
			}
		}
	}
}

// isFoldedTo holds what becomes of a tree.
func isFoldedTo(t *testing.T, x, want api.Tree) {
	t.Helper()
	if got := text(folded(t, x)); got != text(want) {
		t.Errorf("%s: %s; should be %s", text(x), got, text(want))
	}
}

// madePure is a pure tree of just so many nodes.
func madePure(below func(int) int, nodes int) api.Tree {
	switch {
	case nodes == 1:
		return con(edges[below(len(edges))])
	case nodes == 2 || below(3) == 0:
		return of(firstCut+below(lastCut-firstCut+1), madePure(below, nodes-1))
	}
	left := 1 + below(nodes-2)
	return of(firstPair+below(lastPair-firstPair+1), madePure(below, left), madePure(below, nodes-1-left))
}

// TestPureMade is of P9.1: pure trees of all sizes become the number that tree.Eval tells (folded
// holds that).
func TestPureMade(t *testing.T) {
	below := mix(13)
	for nodes := 1; nodes <= api.MaxTree; nodes++ {
		for range 20 {
			if x := folded(t, madePure(below, nodes)); x.Op != api.RCon {
				t.Fatalf("%d nodes: %s", nodes, text(x))
			}
		}
	}
}

// TestPureParts is of P9.1: a pure tree within another one is one node, wherever it stands.
func TestPureParts(t *testing.T) {
	below := mix(17)
	for range 3000 {
		x := madePure(below, 1+below(40))
		n, _ := sceneOf().told(x)
		for _, outer := range []func(api.Tree) api.Tree{
			func(k api.Tree) api.Tree { return of(api.RLoad16, k) },
			func(k api.Tree) api.Tree { return of(api.RLoad64, of(api.RAdd, glo(3), k)) },
			func(k api.Tree) api.Tree { return of(api.RMul, tmp(0), k) },
			func(k api.Tree) api.Tree { return of(api.RRem, k, tmp(0)) },
			func(k api.Tree) api.Tree { return of(api.RShl, k, tmp(0)) },
			func(k api.Tree) api.Tree { return of(api.RLt, tmp(1), of(api.RSub, k, tmp(0))) },
		} {
			isFoldedTo(t, outer(x), folded(t, outer(con(n.N))))
		}
	}
}

// valuesOf are numbers to try temporaries with: those at edges, and some beside a number.
func valuesOf(beside ...int64) []int64 {
	l := append([]int64{}, edges...)
	for _, n := range beside {
		l = append(l, n-1, n, n+1, -n, ^n)
	}
	return l
}

// alikeOfNumbers holds that a tree of temporary 0 tells the same of each number.
func alikeOfNumbers(t *testing.T, x api.Tree, values []int64) {
	t.Helper()
	y := folded(t, x)
	s := sceneOf(number(0))
	for _, v := range values {
		s.temps[0] = number(v)
		alike(t, s, x, y)
	}
}

// TestEitherSide is of P9.1: each op of a temporary and each number, on either side, and of one
// temporary on both.
func TestEitherSide(t *testing.T) {
	for op := firstPair; op <= lastPair; op++ {
		alikeOfNumbers(t, of(op, tmp(0), tmp(0)), edges)
		for _, n := range edges {
			alikeOfNumbers(t, of(op, tmp(0), con(n)), valuesOf(n))
			alikeOfNumbers(t, of(op, con(n), tmp(0)), valuesOf(n))
		}
	}
	for op := firstCut; op <= lastCut; op++ {
		alikeOfNumbers(t, of(op, tmp(0)), edges)
	}
}

// few are some of the edges.
var few = []int64{0, 1, -1, 2, 3, -3, 8, 63, 64, -64, 127, 128, 255, -256, 65535, 1 << 31, 1<<32 - 1, -1 << 31, most, least}

// TestPairWithin is of P9.1: each op of two within each other one, on either side of numbers.
func TestPairWithin(t *testing.T) {
	t.Parallel()
	values := append([]int64{5, 16, 254, -129, 1 << 40}, few...)
	for outer := firstPair; outer <= lastPair; outer++ {
		for inner := firstPair; inner <= lastPair; inner++ {
			for i, n := range few {
				for j, m := range few {
					l := []api.Tree{of(inner, tmp(0), con(n)), of(inner, con(n), tmp(0))}
					x := l[(i+j)%2]
					alikeOfNumbers(t, of(outer, x, con(m)), values)
					alikeOfNumbers(t, of(outer, con(m), l[1-(i+j)%2]), values)
				}
			}
		}
	}
}

// TestSamePart is of P9.1: each op within each other one, with a part in common, in each order.
func TestSamePart(t *testing.T) {
	s := sceneOf(number(0), number(0))
	for outer := firstPair; outer <= lastPair; outer++ {
		for inner := firstPair; inner <= lastPair; inner++ {
			ab, ba := of(inner, tmp(0), tmp(1)), of(inner, tmp(1), tmp(0))
			for _, x := range []api.Tree{
				of(outer, ab, tmp(0)), of(outer, tmp(0), ab), of(outer, ba, tmp(0)), of(outer, tmp(0), ba),
				of(outer, ab, ba), of(outer, ab, ab), of(outer, ba, ab),
				of(outer, of(inner, tmp(0), con(3)), of(inner, tmp(0), con(-5))),
				of(outer, of(inner, tmp(0), con(3)), of(inner, tmp(1), con(3))),
				of(outer, of(inner, con(3), tmp(0)), of(inner, con(64), tmp(0))),
				of(outer, of(inner, con(3), tmp(0)), tmp(0)), of(outer, tmp(0), of(inner, tmp(0), con(2))),
			} {
				y := folded(t, x)
				for _, a := range few {
					for _, b := range few {
						s.temps[0], s.temps[1] = number(a), number(b)
						alike(t, s, x, y)
					}
				}
			}
		}
	}
}
