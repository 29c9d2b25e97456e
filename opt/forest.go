package opt

import (
	"gantlet/api"
	"gantlet/fold"
)

// largest is how many nodes a folded tree of a forest has at most: one of more becomes a leaf, of whose
// value no more is known than that it is the same each time.
const largest = 40

// label is a tree's in a forest: trees that are alike have the same one.
type label int32

// none is the label of a kid that is not there.
const none label = 0

// node is the top of a tree, with its kids' labels.
type node struct {
	op   int
	n    int64
	kids [2]label
}

// origin is where a value comes from of which nothing is known.
type origin struct {
	block, step, part int
}

// plant is a tree of a forest, with what is known of it.
type plant struct {
	node
	facts
}

// forest is trees, by their labels.
type forest struct {
	plants []plant
	temps  []label // of each temporary that was named
	labels map[node]label
	folds  map[node]label
	leaves map[origin]label
}

func newForest() *forest {
	return &forest{plants: make([]plant, 1), labels: map[node]label{}, folds: map[node]label{}, leaves: map[origin]label{}}
}

// of tells a label's tree.
func (f *forest) of(l label) *plant {
	return &f.plants[l]
}

// label tells a node's label. Where kids may be turned, a number comes second, else the later one.
func (f *forest) label(n node) label {
	if n.op == api.RTmp {
		return f.temp(int(n.n))
	}
	if a, b := n.kids[0], n.kids[1]; isSymmetric(n.op) && !f.isCon(b) && (a > b || f.isCon(a)) {
		n.kids = [2]label{b, a}
	}
	l := f.labels[n]
	if l == none {
		l = f.add(n)
		f.labels[n] = l
	}
	return l
}

// temp tells the label of a temporary. There may be so many that to keep them in the map takes time.
func (f *forest) temp(n int) label {
	for len(f.temps) <= n {
		f.temps = append(f.temps, f.add(node{op: api.RTmp, n: int64(len(f.temps))}))
	}
	return f.temps[n]
}

// fresh tells a temporary that was not there before.
func (f *forest) fresh() label {
	return f.temp(len(f.temps))
}

func (f *forest) add(n node) label {
	l := label(len(f.plants))
	f.plants = append(f.plants, plant{n, f.factsOf(n, l)})
	return l
}

// tree tells a label's tree.
func (f *forest) tree(l label) api.Tree {
	n := f.of(l).node
	t := api.Tree{Op: n.op, N: n.n}
	for _, k := range n.kids {
		if k != none {
			t.Kids = append(t.Kids, f.tree(k))
		}
	}
	return t
}

// take takes a tree up, and tells its label.
func (f *forest) take(t api.Tree) label {
	n := node{op: t.Op, n: t.N}
	for i, k := range t.Kids {
		n.kids[i] = f.take(k)
	}
	return f.label(n)
}

func (f *forest) con(n int64) label {
	return f.label(node{op: api.RCon, n: n})
}

func (f *forest) isCon(l label) bool {
	return f.of(l).op == api.RCon
}

// leaf tells a value that comes from somewhere, as a temporary of its own.
func (f *forest) leaf(from origin) label {
	l := f.leaves[from]
	if l == none {
		l = f.fresh()
		f.leaves[from] = l
	}
	return l
}

// one and two tell what comes of an op of folded trees.

func (f *forest) one(op int, a label) label {
	return f.folded(node{op: op, kids: [2]label{a}})
}

func (f *forest) two(op int, a, b label) label {
	return f.folded(node{op: op, kids: [2]label{a, b}})
}

// folded tells the label of a node's folded tree.
func (f *forest) folded(n node) label {
	if l := f.folds[n]; l != none {
		return l
	}
	l := f.label(n)
	// What is made of two trees of at most so many nodes is one that may be.
	t, _ := fold.Fold(f.tree(l))
	to := f.take(t)
	if f.of(to).size > largest {
		own := f.leaf(origin{large, 0, int(to)})
		f.of(own).locals = f.of(to).locals // as it may still tell a place in them
		to = own
	}
	f.folds[n] = to
	return to
}
