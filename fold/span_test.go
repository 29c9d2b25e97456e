package fold_test

import (
	"testing"

	"gantlet/api"
)

// within is a tree of so many leaves, of numbers that are known to be in some span: cuts, loads, masks,
// and such that are moved away from 0.
func within(below func(int) int, count int) api.Tree {
	if count == 1 {
		x := tmp(int64(below(2)))
		n := con(edges[below(len(edges))])
		l := []api.Tree{
			of(api.RZext8, x), of(api.RExt8, x), of(api.RZext16, x), of(api.RExt16, x), of(api.RZext32, x), of(api.RExt32, x),
			of(api.RAnd, x, con(3)), of(api.RShr, x, con(int64(below(64)))), of(api.RSar, x, con(int64(below(64)))), of(api.RLt, x, n),
			of(api.RAdd, of(api.RZext8, x), con(int64(1+below(9)))), of(api.RSub, con(-3), of(api.RZext8, x)), of(api.ROr, of(api.RAnd, x, con(7)), con(4)), n, x,
		}
		return l[below(len(l))]
	}
	left := 1 + below(count-1)
	return of(firstPair+below(lastPair-firstPair+1), within(below, left), within(below, count-left))
}

// endsOf tells the least and the greatest number that a tree of two temporaries comes to.
func endsOf(s *scene, x api.Tree, values []int64) (lo, hi int64) {
	lo, hi = most, least
	for _, a := range values {
		for _, b := range values {
			s.temps[0], s.temps[1] = number(a), number(b)
			v, _ := s.told(x)
			lo, hi = min(lo, v.N), max(hi, v.N)
		}
	}
	return lo, hi
}

// TestEndsOfSpans is of P9.1: comparisons with what is least and greatest, and beside it, of each op of
// numbers above 0, below 0, around 0 and from 0 on.
func TestEndsOfSpans(t *testing.T) {
	t.Parallel()
	s := sceneOf(number(0), number(0))
	values := []int64{0, 1, 2, 127, 128, 255}
	kinds := func(x api.Tree) []api.Tree {
		return []api.Tree{of(api.RAdd, of(api.RZext8, x), con(2)), of(api.RSub, con(-3), of(api.RZext8, x)), of(api.RExt8, x), of(api.RZext8, x), of(api.RAdd, of(api.RZext8, x), con(300))}
	}
	for op := firstPair; op <= lastPair; op++ {
		for _, a := range kinds(tmp(0)) {
			for _, b := range append(kinds(tmp(1)), con(3), con(62), con(-1)) {
				x := of(op, a, b)
				lo, hi := endsOf(s, x, values)
				for compare := api.REq; compare <= api.RLeU; compare++ {
					for _, n := range []int64{lo - 1, lo, lo + 1, hi - 1, hi, hi + 1} {
						for _, y := range []api.Tree{of(compare, x, con(n)), of(compare, con(n), x)} {
							z := folded(t, y)
							for _, v := range values {
								for _, w := range values {
									s.temps[0], s.temps[1] = number(v), number(w)
									alike(t, s, y, z)
								}
							}
						}
					}
				}
			}
		}
	}
}

// TestSpans is of P9.1: where numbers lie is never thought narrower than it is: comparisons with the
// least and the greatest number that is seen, and those beside them; cuts; quotients and rests.
func TestSpans(t *testing.T) {
	t.Parallel()
	below := mix(67)
	s := sceneOf(number(0), number(0))
	values := []int64{0, 1, -1, 3, 127, 128, 32767, 32768, 1<<31 - 1, 1 << 31, most, least}
	for range 5000 {
		x := within(below, 1+below(4))
		lo, hi := endsOf(s, x, values)
		n := con([]int64{lo - 1, lo, lo + 1, hi - 1, hi, hi + 1}[below(6)])
		op := api.REq + below(6)
		for _, y := range []api.Tree{of(op, x, n), of(op, n, x), of(firstCut+below(6), x), of(api.RDiv+below(4), x, n), of(api.RAnd, x, con(hi)), of(api.RSar, x, con(2))} {
			z := folded(t, y)
			for _, a := range values {
				for _, b := range values {
					s.temps[0], s.temps[1] = number(a), number(b)
					alike(t, s, y, z)
				}
			}
		}
	}
}
