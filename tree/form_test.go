package tree_test

import (
	"math"
	"strconv"
	"testing"

	"gantlet/api"
	"gantlet/tree"
)

// places puts a tree at many places: alone, and as the first, the second and the last kid of
// others that may be, also deep in them.
func places(t api.Tree) []api.Tree {
	l := []api.Tree{
		t,
		of(api.RExt8, t),
		of(api.RLoad64, t),
		of(api.RAdd, t, con(1)),
		of(api.RAdd, con(1), t),
		of(api.RLeU, t, t),
		of(api.RMul, of(api.RSub, con(1), t), of(api.RTmp)),
		of(api.RMul, of(api.RTmp), of(api.RZext32, of(api.RSub, con(1), of(api.RLoadU8, t)))),
	}
	deep := t
	for i := range 40 {
		if i%2 == 0 {
			deep = of(api.RXor, con(int64(i)), deep)
		} else {
			deep = of(api.RShl, deep, con(int64(i)))
		}
	}
	last := of(api.ROr, con(3), t)
	for range 40 {
		last = of(api.ROr, of(api.RLoad8, con(2)), last)
	}
	return append(l, deep, last)
}

// takenEverywhere holds that a tree may be, wherever it stands.
func takenEverywhere(t *testing.T, x api.Tree) {
	t.Helper()
	for _, y := range places(x) {
		isTaken(t, y)
	}
}

// refusedEverywhere holds that a tree may not be, wherever it stands.
func refusedEverywhere(t *testing.T, x api.Tree) {
	t.Helper()
	for _, y := range places(x) {
		isRefused(t, show(y), y)
	}
}

// TestEachOp is of P6.1 and P6.2: each op's tree may be, alone and within each other's.
func TestEachOp(t *testing.T) {
	for _, k := range kinds {
		takenEverywhere(t, filled(k.op, con(5)))
		for _, outer := range kinds {
			for _, n := range []int64{0, 5, most} {
				leaf := api.Tree{Op: api.RGlo, N: n}
				isTaken(t, filled(outer.op, filled(k.op, leaf)))
				isTaken(t, filled(outer.op, filled(k.op, filled(outer.op, con(-n)))))
			}
		}
	}
}

// TestNoOp is of P6.1: what is none of the ops is refused, whatever else its node has: also
// those that are ops in their lowest bits alone.
func TestNoOp(t *testing.T) {
	strange := []int{math.MinInt, math.MinInt + api.RCon, math.MinInt + api.RAdd, math.MaxInt, -64 + api.RCon, 128 + api.RTmp,
		256 + api.RAdd, 256 + api.RCon, 65536 + api.RExt8, 1<<32 + api.RCon, 1<<32 + api.RDiv, 1<<40 + api.RLoad8, -api.RAdd}
	for op := -130; op <= 300; op++ {
		if op < api.RCon || op > api.RZext32 {
			strange = append(strange, op)
		}
	}
	for _, op := range strange {
		for _, n := range []int64{0, 1, -1, 64} {
			for kids := range 4 {
				x := api.Tree{Op: op, N: n}
				for range kids {
					x.Kids = append(x.Kids, con(1))
				}
				isRefused(t, show(x), x)
			}
		}
		refusedEverywhere(t, api.Tree{Op: op})
	}
}

// TestN is of P6.1: RCon may have each N, RTmp, RLoc and RGlo those from 0 on, all others 0.
func TestN(t *testing.T) {
	for _, k := range kinds {
		for _, n := range edges {
			x := filled(k.op, con(5))
			x.N = n
			if k.op == api.RCon || k.kids == 0 && n >= 0 || n == 0 {
				takenEverywhere(t, x)
			} else {
				refusedEverywhere(t, x)
			}
		}
	}
}

// TestKids is of P6.1: each op has just as many kids as it has, nil and empty ones are one.
func TestKids(t *testing.T) {
	many := make([]api.Tree, 1<<20)
	for i := range many {
		many[i] = con(5)
	}
	for _, k := range kinds {
		for kids := range 7 {
			x := api.Tree{Op: k.op}
			for range kids {
				x.Kids = append(x.Kids, con(5))
			}
			if kids == k.kids {
				takenEverywhere(t, x)
			} else {
				refusedEverywhere(t, x)
			}
		}
		isRefused(t, "many kids", api.Tree{Op: k.op, Kids: many})
		if k.kids == 0 {
			takenEverywhere(t, api.Tree{Op: k.op, Kids: []api.Tree{}})
			takenEverywhere(t, api.Tree{Op: k.op, Kids: many[3:3]})
		}
	}
}

// shapes are trees of just so many nodes, from 3 on: to the left, to the right, one under the
// other, broad, and made at random.
func shapes(nodes int) []api.Tree {
	left, right, chain, mixed := con(1), con(1), con(1), con(1)
	if nodes%2 == 0 {
		left, right = of(api.RExt8, con(1)), of(api.RLoad8, con(1))
		mixed = of(api.RZext8, con(1))
	}
	for i := range (nodes - 1) / 2 {
		left = of(api.RAdd, left, con(2))
		right = of(api.RSub, api.Tree{Op: api.RTmp, N: 2}, right)
		if i%2 == 0 {
			mixed = of(api.RAnd, con(-1), mixed)
		} else {
			mixed = of(api.RShl, mixed, con(least))
		}
	}
	for range nodes - 1 {
		chain = of(api.RZext16, chain)
	}
	l := []api.Tree{left, right, chain, mixed, broad(nodes)}
	below := mix(uint64(nodes) + 1000003)
	for range 8 {
		l = append(l, made(below, nodes, isAny))
	}
	return l
}

// broad is a tree of just so many nodes, as flat as it may be.
func broad(nodes int) api.Tree {
	switch nodes {
	case 1:
		return api.Tree{Op: api.RLoc}
	case 2:
		return of(api.RLoad32, con(0))
	}
	return of(api.RMul, broad((nodes-1)/2), broad(nodes-1-(nodes-1)/2))
}

// TestHowMany is of P6.1: trees of each size up to MaxTree are taken, of more none is.
func TestHowMany(t *testing.T) {
	for nodes := 3; nodes <= api.MaxTree; nodes++ {
		for i, x := range shapes(nodes) {
			if n := nodesOf(x); n != nodes {
				t.Fatalf("shape %d of %d: %d", i, nodes, n)
			}
			isTaken(t, x)
		}
	}
	for _, nodes := range []int{api.MaxTree + 1, api.MaxTree + 2, 255, 256, 257, 300, 511, 512, 2 * api.MaxTree, 1000, 65537} {
		for i, x := range shapes(nodes) {
			isRefused(t, "shape "+strconv.Itoa(i)+" of "+strconv.Itoa(nodes), x)
		}
	}
}

// TestOneMore is of P6.1: MaxTree nodes are taken, whichever op is the top, and with one more
// none is, whichever op that is.
func TestOneMore(t *testing.T) {
	for _, k := range kinds {
		if k.kids == 0 {
			continue
		}
		x := of(k.op, broad(api.MaxTree-1))
		y := of(k.op, broad(api.MaxTree))
		if k.kids == 2 {
			x = of(k.op, broad(api.MaxTree-2), con(1))
			y = of(k.op, con(1), broad(api.MaxTree-1))
			isTaken(t, of(k.op, con(1), broad(api.MaxTree-2)))
			isTaken(t, of(k.op, broad(99), broad(api.MaxTree-100)))
			isRefused(t, k.word, of(k.op, broad(api.MaxTree-1), con(1)))
			isRefused(t, k.word, of(k.op, broad(100), broad(api.MaxTree-100)))
		}
		isTaken(t, x)
		isRefused(t, k.word, y)
		isRefused(t, k.word, filled(k.op, broad(api.MaxTree)))
	}
}

// TestLastKid is of P6.1: of trees of MaxTree nodes a fault in any node is seen: in the last
// one of the last one, too.
func TestLastKid(t *testing.T) {
	for i, x := range shapes(api.MaxTree) {
		for j, n := range nodesIn(&x) {
			old := *n
			what := "shape " + strconv.Itoa(i) + ", node " + strconv.Itoa(j)
			for _, wrong := range []api.Tree{{}, {Op: api.RTmp, N: -1}, {Op: api.RAdd}, {Op: api.RZext32 + 1}, {Op: api.RLoad8}, {Op: old.Op, N: old.N, Kids: append([]api.Tree{con(1), con(1), con(1)}, old.Kids...)}} {
				*n = wrong
				isRefused(t, what, x)
			}
			*n = old
			if len(old.Kids) > 0 {
				n.N = 1
				isRefused(t, what, x)
				n.N = 0
			} else {
				*n = of(api.RExt32, old) // one node more
				isRefused(t, what, x)
			}
			*n = old
		}
		isTaken(t, x)
	}
}

// TestSharedMemory is of R1: lists that share memory count as often as they stand there, so
// that little memory is a tree that no one could go through to its end.
func TestSharedMemory(t *testing.T) {
	for _, op := range []int{api.RAdd, api.RLeU} {
		x, nodes := con(1), 1
		for range 60 {
			x = api.Tree{Op: op, Kids: []api.Tree{x, x}}
			nodes = 2*nodes + 1
			if nodes <= api.MaxTree {
				isTaken(t, x)
			} else {
				isRefused(t, strconv.Itoa(nodes), x)
			}
			nodes = min(nodes, 1<<20)
		}
	}
	in := make([]api.Tree, 2)
	in[0], in[1] = api.Tree{Op: api.RAdd, Kids: in}, con(1)
	isRefused(t, "a tree within itself", in[0])
	in[0], in[1] = con(1), api.Tree{Op: api.RAdd, Kids: in}
	isRefused(t, "a tree within itself", in[1])
	one := make([]api.Tree, 1)
	one[0] = api.Tree{Op: api.RExt8, Kids: one}
	isRefused(t, "a tree within itself", one[0])
}

// TestDeep is of R1: what is nested deep is refused.
func TestDeep(t *testing.T) {
	left, right, chain := con(1), con(1), con(1)
	for range 65000 {
		left, right, chain = of(api.RAdd, left, con(1)), of(api.RAdd, con(1), right), of(api.RLoad64, chain)
	}
	for _, x := range []api.Tree{left, right, chain} {
		isRefused(t, "a deep tree", x)
	}
}

// TestNothing is of P6.1: the zero tree may not be.
func TestNothing(t *testing.T) {
	refusedEverywhere(t, api.Tree{})
	if tree.Check(api.Tree{Op: api.RCon}) != api.OK {
		t.Error("RCon of 0 may be")
	}
}
