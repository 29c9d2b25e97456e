package fold_test

import (
	"fmt"
	"math"
	"testing"

	"gantlet/api"
	"gantlet/fold"
)

// isRefused holds that a tree may not be, and that the zero tree is told beside.
func isRefused(t *testing.T, what string, x api.Tree) {
	t.Helper()
	if y, err := fold.Fold(x); err != api.ErrForm || y.Op != 0 || y.N != 0 || len(y.Kids) != 0 {
		t.Errorf("%s: %v, %d", what, y, err)
	}
}

// places puts a tree at many places of others: also where it would be left out, were it one.
func places(x api.Tree) []api.Tree {
	deep := x
	for i := range 40 {
		deep = of(firstPair+i%18, con(int64(i)), deep)
	}
	return []api.Tree{
		x, of(api.RExt8, x), of(api.RLoad64, x), of(api.RAdd, x, con(0)), of(api.RAdd, con(1), x), deep,
		of(api.RMul, x, con(0)), of(api.RMul, con(0), x), of(api.RAnd, con(0), x), of(api.ROr, x, con(-1)), of(api.RSub, x, x), of(api.RRem, con(0), x),
		of(api.RShl, of(api.RShl, x, con(32)), con(32)), of(api.RLeU, con(0), x), of(api.RSub, of(api.RAdd, tmp(0), x), tmp(0)),
	}
}

// arity tells how many kids an op has.
func arity(op int) int {
	switch {
	case op <= api.RGlo:
		return 0
	case op >= firstPair && op <= lastPair:
		return 2
	}
	return 1
}

// TestNoTree is of P9.1: each way in which a tree may not be.
func TestNoTree(t *testing.T) {
	wrong := []api.Tree{{}, {Op: -1}, {Op: math.MinInt}, {Op: math.MaxInt}, {Op: api.RZext32 + 1}, {Op: 64 + api.RCon}, {Op: 64 + api.RAdd, Kids: []api.Tree{con(1), con(2)}}, {Op: 256 + api.RCon}, {Op: 1<<32 + api.RCon}, {Op: api.RNone, N: 3}, of(api.RNone, con(1))}
	for op := api.RCon; op <= api.RZext32; op++ {
		for kids := range 5 {
			x := api.Tree{Op: op}
			for range kids {
				x.Kids = append(x.Kids, con(5))
			}
			if kids != arity(op) {
				wrong = append(wrong, x)
				continue
			}
			for _, n := range []int64{1, -1, least, most, 1 << 32} {
				x.N = n
				if op != api.RCon && (kids > 0 || n < 0) {
					wrong = append(wrong, x)
				}
			}
		}
	}
	for _, x := range wrong {
		for _, y := range places(x) {
			isRefused(t, fmt.Sprintf("a tree with %+v", x), y)
		}
	}
}

// TestTree is of P9.1: each op's tree may be, with N at its edges; nil lists and empty ones are one.
func TestTree(t *testing.T) {
	for op := api.RCon; op <= api.RZext32; op++ {
		x := api.Tree{Op: op}
		for range arity(op) {
			x.Kids = append(x.Kids, tmp(0))
		}
		folded(t, x)
		if arity(op) > 0 {
			continue
		}
		for _, n := range []int64{0, 1, 7, 1 << 40, most} {
			want := api.Tree{Op: op, N: n}
			isFoldedTo(t, want, want)
			isFoldedTo(t, api.Tree{Op: op, N: n, Kids: []api.Tree{}}, want)
			isFoldedTo(t, api.Tree{Op: op, N: n, Kids: make([]api.Tree, 0, 4)}, want)
		}
	}
	for _, n := range []int64{-1, least, -1 << 32} {
		isFoldedTo(t, con(n), con(n))
	}
}

// shapesOf are trees of just so many nodes: to the left, to the right, one under the other, broad.
func shapesOf(nodes int) []api.Tree {
	first := []api.Tree{tmp(0), con(3), glo(1)}
	var l []api.Tree
	for _, leaf := range first {
		for op := firstPair; op <= lastPair; op++ {
			left, right := leaf, leaf
			if nodes%2 == 0 {
				left, right = of(api.RLoad64, leaf), of(api.RExt32, leaf)
			}
			for i := range (nodes - 1) / 2 {
				left, right = of(op, left, con(int64(2+i))), of(op, tmp(int64(i)), right)
			}
			l = append(l, left, right)
		}
		cut, load := leaf, leaf
		for i := range nodes - 1 {
			cut, load = of(firstCut+i%6, cut), of(api.RLoad64, load)
		}
		l = append(l, cut, load, broad(nodes, leaf, func(i int) int { return api.RAdd }), broad(nodes, leaf, func(i int) int { return firstPair + i%18 }))
	}
	return l
}

// broad is a tree of just so many nodes, as flat as it may be.
func broad(nodes int, leaf api.Tree, op func(i int) int) api.Tree {
	switch nodes {
	case 1:
		return leaf
	case 2:
		return of(api.RZext16, leaf)
	}
	return of(op(nodes), broad((nodes-1)/2, leaf, op), broad(nodes-1-(nodes-1)/2, leaf, op))
}

// TestHowMany is of P9.1: trees of MaxTree nodes are folded, as deep as they may be; of one more none is.
func TestHowMany(t *testing.T) {
	below := mix(5)
	for _, n := range []int{api.MaxTree - 1, api.MaxTree} {
		for _, x := range shapesOf(n) {
			if nodes(x) != n {
				t.Fatalf("%d nodes", nodes(x))
			}
			y := folded(t, x)
			for range 3 {
				s := madeScene(below)
				for range 100 {
					s.temps = append(s.temps, number(edges[below(len(edges))]))
				}
				alike(t, s, x, y)
			}
		}
	}
	for _, n := range []int{api.MaxTree + 1, api.MaxTree + 2, 255, 256, 257, 400, 1000, 65537} {
		for _, x := range shapesOf(n)[:20] {
			isRefused(t, "many nodes", x)
		}
		isRefused(t, "a pure tree of many nodes", broad(n, con(1), func(int) int { return api.RAdd }))
	}
}

// TestShared is of R1: lists that share memory count as often as they stand there.
func TestShared(t *testing.T) {
	x, n := tmp(0), 1
	for range 60 {
		x = api.Tree{Op: api.RMul, Kids: []api.Tree{x, x}}
		n = min(2*n+1, 1<<20)
		if n <= api.MaxTree {
			folded(t, x)
		} else {
			isRefused(t, "shared memory", x)
		}
	}
	in := make([]api.Tree, 2)
	in[0], in[1] = api.Tree{Op: api.RAdd, Kids: in}, con(1)
	isRefused(t, "a tree within itself", in[0])
	isRefused(t, "a tree within itself", of(api.RMul, con(0), in[0]))
	deep := con(1)
	for range 65000 {
		deep = of(api.RExt8, deep)
	}
	isRefused(t, "a deep tree", deep)
}
