package fold

import "gantlet/api"

// label is a tree's in a forest: trees that are alike have the same one.
type label int

// none is the label of a kid that is not there.
const none label = 0

// node is the top of a tree, with its kids' labels.
type node struct {
	op   int
	n    int64
	kids [2]label
}

// turned tells a node with its kids the other way round.
func (n node) turned() node {
	n.kids[0], n.kids[1] = n.kids[1], n.kids[0]
	return n
}

// plant is a tree of a forest, with what is known of it.
type plant struct {
	node
	facts
}

// forest is trees, by their labels.
type forest struct {
	plants []plant
	labels map[node]label
}

func newForest() forest {
	return forest{plants: make([]plant, 1), labels: map[node]label{}}
}

// of tells a label's tree.
func (f *forest) of(l label) *plant {
	return &f.plants[l]
}

// label tells a node's label. A tree whose kids may be turned has the label of the one with its kids
// turned, if that one was there first.
func (f *forest) label(n node) label {
	if l := f.labels[n]; l != none {
		return l
	}
	if l := f.labels[n.turned()]; l != none && symmetric.has(n.op) {
		return l
	}
	l := label(len(f.plants))
	f.plants = append(f.plants, plant{n, f.factsOf(n)})
	f.labels[n] = l
	return l
}

// take takes a tree up, and tells its label. An RCon comes to be the second kid, where kids may be turned:
// there it is sought.
func (f *forest) take(t api.Tree) label {
	n := node{op: t.Op, n: t.N}
	for i, k := range t.Kids {
		n.kids[i] = f.take(k)
	}
	if _, isFirst := f.constant(n.kids[0]); isFirst && symmetric.has(n.op) {
		n = n.turned()
	}
	return f.label(n)
}

// tree tells a label's tree, in new memory.
func (f *forest) tree(l label) api.Tree {
	n := f.of(l).node
	t := api.Tree{Op: n.op, N: n.n}
	for _, k := range n.kids {
		if k != none {
			t.Kids = append(t.Kids, f.tree(k))
		}
	}
	return t
}

func (f *forest) con(n int64) label {
	return f.label(node{op: api.RCon, n: n})
}

// constant tells the number that a tree is, if it is an RCon.
func (f *forest) constant(l label) (int64, bool) {
	p := f.of(l)
	return p.n, p.op == api.RCon
}

// with tells the kids of a tree, if it is of that op.
func (f *forest) with(op int, l label) (a, b label, ok bool) {
	p := f.of(l)
	return p.kids[0], p.kids[1], p.op == op
}

// withConstant tells the first kid of a tree, and the number that the second one is, if it is of that
// op and that is an RCon.
func (f *forest) withConstant(op int, l label) (a label, n int64, ok bool) {
	a, b, ok := f.with(op, l)
	if !ok {
		return none, 0, false
	}
	n, ok = f.constant(b)
	return a, n, ok
}
