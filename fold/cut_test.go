package fold_test

import (
	"testing"

	"gantlet/api"
)

// TestCuts is of P9.1: what is cut, and cut again, and a third time: narrower and wider, with its sign
// and without.
func TestCuts(t *testing.T) {
	for a := firstCut; a <= lastCut; a++ {
		for b := firstCut; b <= lastCut; b++ {
			alikeOfNumbers(t, of(a, of(b, tmp(0))), edges)
			for c := firstCut; c <= lastCut; c++ {
				alikeOfNumbers(t, of(a, of(b, of(c, tmp(0)))), edges)
			}
		}
	}
}

// TestCutOfPair is of P9.1: cuts of each op with cuts within, and each op of cuts.
func TestCutOfPair(t *testing.T) {
	t.Parallel()
	s := sceneOf(number(0), number(0))
	for op := firstPair; op <= lastPair; op++ {
		for a := firstCut; a <= lastCut; a++ {
			for b := firstCut; b <= lastCut; b++ {
				for _, x := range []api.Tree{
					of(a, of(op, of(b, tmp(0)), tmp(1))),
					of(a, of(op, tmp(1), of(b, tmp(0)))),
					of(op, of(a, tmp(0)), of(b, tmp(1))),
					of(op, of(a, tmp(0)), of(b, tmp(0))),
					of(a, of(op, of(b, tmp(0)), of(a, tmp(1)))),
				} {
					y := folded(t, x)
					for _, n := range few {
						for _, m := range few {
							s.temps[0], s.temps[1] = number(n), number(m)
							alike(t, s, x, y)
						}
					}
				}
			}
		}
	}
}

// TestCutWithNumber is of P9.1: cuts of each op with a number, cuts within, and that op of cuts.
func TestCutWithNumber(t *testing.T) {
	values := append([]int64{5, 16, 254, -129, 1 << 40, 0x7654321076543210, -0x7654321076543210}, few...)
	for op := firstPair; op <= lastPair; op++ {
		for a := firstCut; a <= lastCut; a++ {
			for _, n := range edges {
				alikeOfNumbers(t, of(a, of(op, tmp(0), con(n))), values)
				alikeOfNumbers(t, of(a, of(op, con(n), tmp(0))), values)
				alikeOfNumbers(t, of(op, of(a, tmp(0)), con(n)), values)
				alikeOfNumbers(t, of(op, con(n), of(a, tmp(0))), values)
			}
		}
	}
}

// TestLoadsCut is of P9.1: loads with their sign and without, cut narrower, as wide, and wider.
func TestLoadsCut(t *testing.T) {
	s := sceneOf()
	for load := api.RLoad8; load <= api.RLoadU32; load++ {
		for obj := range int64(globals) {
			at := placeAt(1+int(obj), 0)
			for op := firstCut; op <= lastCut; op++ {
				for _, x := range []api.Tree{of(op, of(load, glo(obj))), of(op, of(api.RAnd, of(load, glo(obj)), con(-1))), of(op, of(api.RShl, of(load, glo(obj)), con(4)))} {
					y := folded(t, x)
					for _, n := range edges {
						s.cells[at] = number(n)
						alike(t, s, x, y)
					}
				}
			}
		}
	}
}

// TestMasks is of P9.1: masks of all widths, of cuts, loads, masks, shifts forth and back.
func TestMasks(t *testing.T) {
	values := append([]int64{0x7654321076543210, -0x7654321076543210}, edges...)
	for bits := range 64 {
		mask, by := con(1<<bits-1), con(int64(bits))
		for _, x := range []api.Tree{
			of(api.RAnd, tmp(0), mask), of(api.RAnd, mask, tmp(0)),
			of(api.RAnd, of(api.RAnd, tmp(0), con(0x3c3c3c3c3c3c)), mask),
			of(api.RShr, of(api.RShl, tmp(0), by), by), of(api.RSar, of(api.RShl, tmp(0), by), by),
			of(api.RShl, of(api.RShr, tmp(0), by), by), of(api.RShl, of(api.RSar, tmp(0), by), by),
			of(api.RSar, of(api.RSar, tmp(0), by), con(40)), of(api.RShr, of(api.RShr, tmp(0), by), con(40)), of(api.RShl, of(api.RShl, tmp(0), by), con(40)),
			of(api.RSar, of(api.RShr, tmp(0), by), by), of(api.RShr, of(api.RSar, tmp(0), by), by),
			of(api.RMul, of(api.RShl, tmp(0), by), con(5)), of(api.RShl, of(api.RMul, tmp(0), con(5)), by),
			of(api.RRemU, tmp(0), con(1<<bits)), of(api.RDivU, tmp(0), con(1<<bits)), of(api.RMul, tmp(0), con(1<<bits)),
			of(api.RDiv, of(api.RAnd, tmp(0), con(most)), con(1<<bits)), of(api.RRem, of(api.RAnd, tmp(0), con(most)), con(1<<bits)),
		} {
			alikeOfNumbers(t, x, values)
			for op := firstCut; op <= lastCut; op++ {
				alikeOfNumbers(t, of(op, x), values)
				alikeOfNumbers(t, of(api.RAnd, of(op, tmp(0)), x), values)
			}
		}
	}
}

// TestCounts is of P9.1: counts of shifts, of which the lowest six bits count.
func TestCounts(t *testing.T) {
	s := sceneOf(number(0), number(0))
	for _, op := range []int{api.RShl, api.RShr, api.RSar} {
		for _, n := range edges {
			for _, by := range []api.Tree{of(api.RAnd, tmp(1), con(n)), of(api.RAdd, tmp(1), con(n)), of(api.RSub, con(n), tmp(1)), of(api.RMul, con(n), tmp(1)), of(api.RExt8, tmp(1)), of(api.RRemU, tmp(1), con(n)), of(api.RXor, con(n), of(api.RZext16, tmp(1)))} {
				x := of(op, tmp(0), by)
				y := folded(t, x)
				for _, a := range []int64{0, 1, -1, 0x7654321076543210, least} {
					for _, b := range edges {
						s.temps[0], s.temps[1] = number(a), number(b)
						alike(t, s, x, y)
					}
				}
			}
		}
	}
}
