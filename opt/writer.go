package opt

import (
	"gantlet/api"
	"gantlet/fold"
)

// writer writes blocks anew.
type writer struct {
	held map[label]int // the first temporary that tells a tree
	room int           // how many more nodes the function may have
}

// rewritten tells a function with all of its trees folded, as far as it is known what they tell.
func rewritten(g api.Graph, notes []note, most bound) api.Graph {
	c := newScan(g, notes)
	c.all()
	own := writer{room: most.less(g).nodes}
	var l []api.Block
	for i, b := range g.Blocks {
		if c.found[i] {
			w := walk{scan: c, state: c.ahead[i].again(), block: i, writer: &own}
			w.holdAll(w.temps)
			b, _ = w.through(b)
		}
		l = append(l, b)
	}
	g.Blocks = l
	return g
}

func (w *writer) holdAll(temps []label) {
	w.held = map[label]int{}
	for i := range temps {
		w.hold(temps, i)
	}
}

// hold notes that a temporary tells a tree.
func (w *writer) hold(temps []label, i int) {
	first, there := w.held[temps[i]]
	if !there || i < first {
		w.held[temps[i]] = i
	}
}

// release notes that a temporary is going to tell another tree.
func (w *writer) release(temps []label, i int) {
	l := temps[i]
	if w.held[l] != i {
		return
	}
	delete(w.held, l)
	for j := range temps {
		if temps[j] == l && j != i {
			w.held[l] = j
			return
		}
	}
}

// written tells how a tree is written: as the number or the place that it is, as the temporary that
// tells it, as some bits of one rather than as a load, or as it was.
func (w *writer) written(f *forest, l label, own api.Tree) api.Tree {
	if f.isFixed(l) {
		return f.tree(l)
	}
	if i, there := w.held[l]; there {
		return leaf(api.RTmp, i)
	}
	p := f.of(l).node
	if i, there := w.held[p.kids[0]]; there && sizeOf(own.Op) > 0 && isCut(p.op) {
		return api.Tree{Op: p.op, Kids: []api.Tree{leaf(api.RTmp, i)}}
	}
	return own
}

// fitted tells what is written in an old tree's place: folded, as far as there is room.
func (w *writer) fitted(own, old api.Tree) api.Tree {
	t, err := fold.Fold(own)
	if err != api.OK || size(t)-size(old) > w.room {
		t, _ = fold.Fold(old)
	}
	w.room -= size(t) - size(old)
	return t
}

// truthful tells a branch by as few nodes as tell whether it is 0.
func truthful(b api.Block) api.Block {
	isNot := api.Tree{Op: api.RNe, Kids: []api.Tree{b.Cond, con(0)}}
	t, err := fold.Fold(isNot)
	switch {
	case err != api.OK:
	case t.Op == api.RNe && isZero(t.Kids[1]):
		b.Cond = t.Kids[0]
	case t.Op == api.REq && isZero(t.Kids[1]):
		b.Cond = t.Kids[0]
		b.Next, b.Else = b.Else, b.Next
	case size(t) <= size(b.Cond):
		b.Cond = t
	}
	return b
}

func isZero(t api.Tree) bool {
	return t.Op == api.RCon && t.N == 0
}
