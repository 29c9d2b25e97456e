package fold_test

import (
	"testing"

	"gantlet/api"
)

// made is a tree of just so many nodes, of all ops. So that not all of them are stuck, ops that may stand
// at places are many.
func made(below func(int) int, nodes int) api.Tree {
	switch {
	case nodes == 1:
		return madeLeaf(below)
	case nodes == 2 || below(5) == 0:
		op := firstCut + below(6)
		if below(3) == 0 {
			op = api.RLoad8 + below(7)
		}
		return of(op, made(below, nodes-1))
	}
	left := 1 + below(nodes-2)
	op := firstPair + below(18)
	if below(3) == 0 {
		op = placeOps[below(len(placeOps))]
	}
	a := made(below, left)
	if 2*left+1 == nodes && below(4) == 0 {
		return of(op, a, a)
	}
	return of(op, a, made(below, nodes-1-left))
}

func madeLeaf(below func(int) int) api.Tree {
	switch below(8) {
	case 0, 1:
		return con(edges[below(len(edges))])
	case 2:
		return con(int64(below(24) - 8))
	case 3:
		return glo(int64(below(globals)))
	case 4:
		return loc(int64(below(locals)))
	}
	return tmp(int64(below(3)))
}

// TestMade is of P9.1 and P9.2: trees made at random tell what they told.
func TestMade(t *testing.T) {
	t.Parallel()
	below := mix(20261120)
	told, smaller := 0, 0
	for range 100000 {
		x := made(below, 1+below(14))
		y := folded(t, x)
		if nodes(y) < nodes(x) {
			smaller++
		}
		for range 4 {
			if alike(t, madeScene(below), x, y) {
				told++
			}
		}
	}
	if told < 80000 || smaller < 40000 {
		t.Errorf("%d tell something, %d become smaller", told, smaller)
	}
}

// numeric is a tree that is stuck nowhere where temporaries are numbers: up to so deep.
func numeric(below func(int) int, deep int) api.Tree {
	if deep == 0 || below(8) == 0 {
		switch below(5) {
		case 0, 1:
			return con(edges[below(len(edges))])
		case 2:
			load := api.RLoad8 + below(7)
			return of(load, glo(int64([]int{0, 1, 2, 3, 0, 1, 2}[load-api.RLoad8])))
		}
		return tmp(int64(below(3)))
	}
	switch below(4) {
	case 0:
		return of(firstCut+below(6), numeric(below, deep-1))
	case 1:
		return of(firstPair+below(18), numeric(below, deep-1), con(edges[below(len(edges))]))
	}
	return of(firstPair+below(18), numeric(below, deep-1), numeric(below, deep-1))
}

// TestMadeNumbers is of P9.1 and P9.2: trees of numbers alone.
func TestMadeNumbers(t *testing.T) {
	t.Parallel()
	below := mix(31)
	for range 60000 {
		x := numeric(below, 1+below(5))
		if nodes(x) > api.MaxTree {
			continue
		}
		y := folded(t, x)
		for range 4 {
			s := madeScene(below)
			for i := range 3 {
				s.temps[i] = number(edges[below(len(edges))])
			}
			for at, v := range s.cells {
				if v.Obj > 0 {
					s.cells[at] = number(edges[below(len(edges))])
				}
			}
			if !alike(t, s, x, y) {
				t.Errorf("%s is stuck", text(x))
			}
		}
	}
}
