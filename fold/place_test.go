package fold_test

import (
	"testing"

	"gantlet/api"
)

// placeOps are those of two that may stand at places.
var placeOps = []int{api.RAdd, api.RSub, api.REq, api.RNe, api.RLt, api.RLtU, api.RLe, api.RLeU}

// Values that a temporary may have where places are tried: numbers, places in two objects, at their
// ends, too, and one in what is no more.
func placeValues() []api.Val {
	end := func(i int) api.Val { return placeAt(i, objects()[i-1].bytes) }
	return []api.Val{
		number(0), number(4), number(-4), number(8), number(least),
		placeAt(3, 0), placeAt(3, 4), end(3), placeAt(other, 0), end(other), placeAt(gone, 0), placeAt(gone, 4),
	}
}

// highest tells the highest temporary that a tree names; -1: none.
func highest(x api.Tree) int {
	n := -1
	if x.Op == api.RTmp {
		n = int(x.N)
	}
	for _, k := range x.Kids {
		n = max(n, highest(k))
	}
	return n
}

// alikeOfPlaces holds that a tree of temporaries 0 and 1 tells the same of all that they may be, and
// tells how often it tells something.
func alikeOfPlaces(t *testing.T, x api.Tree, values []api.Val) int {
	t.Helper()
	y := folded(t, x)
	s := sceneOf(number(0), number(0))
	told, last := 0, highest(x)
	for _, v := range values {
		for _, w := range values {
			s.temps[0], s.temps[1] = v, w
			if alike(t, s, x, y) {
				told++
			}
			if last < 1 {
				break
			}
		}
		if last < 0 {
			break
		}
	}
	return told
}

// TestPlacePairs is of P9.1: each op of all leaves on either side.
func TestPlacePairs(t *testing.T) {
	leaves := []api.Tree{tmp(0), tmp(1), glo(2), glo(3), loc(2), con(0), con(4), con(-8), con(least), con(most)}
	for op := firstPair; op <= lastPair; op++ {
		for _, a := range leaves {
			for _, b := range leaves {
				alikeOfPlaces(t, of(op, a, b), placeValues())
			}
		}
	}
}

// TestPlaceTrees is of P9.1: all trees of two ops that may stand at places, in each order, of
// temporaries that are numbers in one scene and places in another one, of a global, and of numbers that
// lead forth, back, to the end and beyond.
func TestPlaceTrees(t *testing.T) {
	t.Parallel()
	leaves := []api.Tree{tmp(0), tmp(1), glo(2), con(0), con(4), con(-4), con(16)}
	told := 0
	for _, outer := range placeOps {
		for _, inner := range placeOps {
			for _, a := range leaves {
				for _, b := range leaves {
					for _, c := range leaves {
						told += alikeOfPlaces(t, of(outer, of(inner, a, b), c), placeValues())
						told += alikeOfPlaces(t, of(outer, a, of(inner, b, c)), placeValues())
					}
				}
			}
		}
	}
	if told < 400000 {
		t.Errorf("only %d tell something", told)
	}
}

// madeAmong is a tree of just so many leaves, by some ops.
func madeAmong(below func(int) int, count int, ops []int, leaves []api.Tree) api.Tree {
	if count == 1 {
		return leaves[below(len(leaves))]
	}
	left := 1 + below(count-1)
	return of(ops[below(len(ops))], madeAmong(below, left, ops, leaves), madeAmong(below, count-left, ops, leaves))
}

// TestLongWays is of P9.1: sums and differences of up to six parts, and comparisons of such.
func TestLongWays(t *testing.T) {
	t.Parallel()
	below := mix(20261120)
	leaves := []api.Tree{tmp(0), tmp(1), tmp(0), tmp(1), glo(2), con(4), con(-4), con(8), con(-12), con(least), of(api.RExt8, tmp(1)), of(api.RMul, tmp(0), con(2)), of(api.RLoad32, glo(2))}
	told := 0
	for i := range 60000 {
		ops := []int{api.RAdd, api.RSub}
		if i%3 == 0 {
			ops = placeOps
		}
		x := madeAmong(below, 3+below(4), ops, leaves)
		if i%2 == 0 {
			x = of(placeOps[2+below(6)], x, madeAmong(below, 1+below(3), ops, leaves))
		}
		told += alikeOfPlaces(t, x, placeValues())
	}
	if told < 100000 {
		t.Errorf("only %d tell something", told)
	}
}

// TestLongAddresses is of P9.1: loads of such sums, of which the place may be either part.
func TestLongAddresses(t *testing.T) {
	below := mix(59)
	leaves := []api.Tree{tmp(0), tmp(1), of(api.RAdd, tmp(0), con(4)), of(api.RAdd, tmp(1), con(4)), of(api.RSub, tmp(1), con(4)), of(api.RAdd, con(-8), tmp(0)), con(4), con(-4)}
	told := 0
	for range 20000 {
		told += alikeOfPlaces(t, of(api.RLoad32, madeAmong(below, 2+below(3), []int{api.RAdd, api.RAdd, api.RSub}, leaves)), placeValues())
	}
	if told < 20000 {
		t.Errorf("only %d tell something", told)
	}
}

// TestHeldAgainstNumber is of P9.1: places are held against numbers that are 0, or are not.
func TestHeldAgainstNumber(t *testing.T) {
	t.Parallel()
	below := mix(61)
	leaves := []api.Tree{tmp(0), tmp(1), of(api.RAdd, tmp(0), con(4)), of(api.RAdd, tmp(1), con(4)), of(api.RSub, tmp(1), con(4)), of(api.RAdd, con(-8), tmp(0))}
	told := 0
	for range 20000 {
		x := madeAmong(below, 2+below(2), []int{api.RAdd, api.RAdd, api.RSub}, leaves)
		n := []api.Tree{con(0), of(api.RLoad32, glo(2)), of(api.RLoad64, glo(3)), con(4), of(api.ROr, of(api.RLoad32, glo(2)), con(1))}[below(5)]
		told += alikeOfPlaces(t, of(placeOps[2+below(6)], x, n), placeValues())
		told += alikeOfPlaces(t, of(placeOps[2+below(6)], n, x), placeValues())
	}
	if told < 100000 {
		t.Errorf("only %d tell something", told)
	}
}

// TestAskedAsNumber is of P9.1: what is a number, as it is cut, shifted, multiplied, may still be how
// far two places are from each other.
func TestAskedAsNumber(t *testing.T) {
	t.Parallel()
	below := mix(7)
	leaves := []api.Tree{tmp(0), tmp(1), tmp(0), tmp(1), glo(2), con(4), con(-4), con(256), con(1 << 32), of(api.RExt8, tmp(0)), of(api.RZext32, tmp(1)), of(api.RAdd, tmp(0), con(4)), of(api.RSub, tmp(1), con(4)), of(api.RAnd, tmp(1), con(-4))}
	told := 0
	for range 40000 {
		x := madeAmong(below, 2+below(4), []int{api.RAdd, api.RSub, api.RSub}, leaves)
		switch below(5) {
		case 0, 1:
			x = of(firstCut+below(6), x)
		case 2:
			x = of(api.RSar, x, con(int64(below(4))))
		case 3:
			x = of(api.RAnd, con(0xff), x)
		case 4:
			x = of([]int{api.RMul, api.RXor, api.ROr, api.RShl, api.RRem}[below(5)], x, con(4))
		}
		told += alikeOfPlaces(t, x, placeValues())
	}
	if told < 100000 {
		t.Errorf("only %d tell something", told)
	}
}

// TestPlacesLoaded is of P9.1: what load64 tells is a number in one run and a place in another one, and
// addresses that become smaller are the same ones.
func TestPlacesLoaded(t *testing.T) {
	t.Parallel()
	below := mix(11)
	at := of(api.RAdd, glo(3), con(8))
	v := of(api.RLoad64, at)
	leaves := []api.Tree{v, v, tmp(0), glo(2), con(4), con(-4), con(0), of(api.RLoad64, glo(3)), of(api.RLoad32, of(api.RAdd, v, con(4))), of(api.RLoad8, of(api.RSub, of(api.RAdd, loc(0), con(2)), con(1)))}
	s := sceneOf(number(0))
	told := 0
	for range 20000 {
		x := madeAmong(below, 2+below(3), placeOps, leaves)
		switch below(4) {
		case 0:
			x = of(api.RLoad64, x)
		case 1:
			x = of(api.RLoad32, x)
		}
		y := folded(t, x)
		for _, a := range placeValues() {
			for _, b := range placeValues() {
				s.temps[0], s.cells[placeAt(4, 8)], s.cells[placeAt(3, 4)] = a, b, number(-3)
				if alike(t, s, x, y) {
					told++
				}
			}
		}
	}
	if told < 50000 {
		t.Errorf("only %d tell something", told)
	}
}

// TestAddresses is of P9.1: loads of each size at each element, however the place is told.
func TestAddresses(t *testing.T) {
	below := mix(23)
	for i := range globals + locals {
		o := objects()[i]
		base := glo(int64(i))
		if i >= globals {
			base = loc(int64(i - globals))
		}
		for n := int64(0); n <= o.bytes; n++ {
			for load := api.RLoad8; load <= api.RLoadU32; load++ {
				for _, at := range []api.Tree{
					of(api.RAdd, base, con(n)), of(api.RAdd, con(n), base), of(api.RSub, base, con(-n)),
					of(api.RAdd, of(api.RAdd, base, con(o.bytes)), con(n-o.bytes)),
					of(api.RSub, of(api.RAdd, con(o.bytes), base), con(o.bytes-n)),
					of(api.RAdd, of(api.RAdd, base, of(api.RMul, con(2), con(n))), of(api.RSub, con(0), con(n))),
					of(api.RAdd, base, of(api.RSub, of(api.RAdd, con(n), tmp(0)), tmp(0))),
					of(api.RAdd, base, of(api.RAdd, of(api.RMul, tmp(1), con(4)), of(api.RSub, con(n), of(api.RShl, tmp(1), con(2))))),
					of(api.RSub, of(api.RAdd, base, tmp(0)), of(api.RAdd, tmp(0), con(-n))),
				} {
					x := of(load, at)
					y := folded(t, x)
					for range 4 {
						alike(t, madeScene(below), x, y)
					}
				}
			}
		}
	}
}
