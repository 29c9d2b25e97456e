package opt

import (
	"slices"

	"gantlet/api"
)

// slot is an element of a local.
type slot struct {
	local, at int64
}

// home is the temporary that an element becomes, and the load whose numbers it keeps; RNone, as long as
// nothing is loaded there.
type home struct {
	temp, load int
}

// settler leaves out locals that are not loaded, and makes temporaries of the elements of others.
type settler struct {
	survey
	graph  api.Graph
	loaded locals
	fixed  locals // those that are 0 at first, and of which it is known where all accesses are
	homes  map[slot]home
}

// settled tells a function with fewer locals in memory, where no place of theirs goes elsewhere than to
// loads and stores.
func settled(g api.Graph) api.Graph {
	w := settler{survey: surveyOf(newForest(), g), graph: g, homes: map[slot]home{}}
	w.fixed = w.private()
	for i, o := range g.Locals {
		if slices.ContainsFunc(o.Init, func(n int64) bool { return n != 0 }) {
			w.fixed &^= 1 << i
		}
	}
	for _, a := range w.accesses {
		w.weigh(a)
	}
	w.move()
	w.graph.Blocks = slices.Clone(g.Blocks)
	for i, b := range g.Blocks {
		b = mappedBlock(b, w.tree)
		b.Steps = w.steps(b.Steps)
		w.graph.Blocks[i] = b
	}
	return w.graph
}

// local tells the local that a place is one of, if that is private.
func (w *settler) local(at label) (int64, bool) {
	object := w.of(at).object
	return w.of(object).n, w.isPrivate(object, w.private())
}

// weigh takes an access into account. What is cut where it is stored has one node more.
func (w *settler) weigh(a access) {
	n, ok := w.local(a.at)
	if !ok {
		return
	}
	if a.op != api.RNone {
		w.loaded |= 1 << n
	}
	base, at := w.parted(a.at)
	o := w.graph.Locals[n]
	isElement := base == w.of(a.at).object && at >= 0 && at < int64(o.Size*o.Count) && at%int64(o.Size) == 0
	if !isElement || a.size != o.Size || a.wide {
		w.fixed &^= 1 << n
	}
}

// move tells each element its temporary, as far as there may be more of them.
func (w *settler) move() {
	for _, a := range w.accesses {
		n, ok := w.local(a.at)
		if !ok || !w.fixed.has(n) {
			continue
		}
		_, at := w.parted(a.at)
		s := slot{n, at}
		h, there := w.homes[s]
		if !there {
			h.temp = w.graph.Temps + len(w.homes)
		}
		if h.load == api.RNone {
			h.load = a.op
		}
		w.homes[s] = h
	}
	if w.graph.Temps+len(w.homes) > api.MaxTemps {
		w.fixed = 0
		return
	}
	w.graph.Temps += len(w.homes)
}

// tree tells a load of such an element as its temporary.
func (w *settler) tree(t api.Tree) api.Tree {
	if sizeOf(t.Op) == 0 {
		return t
	}
	h, ok := w.homeOf(t.Kids[0])
	switch {
	case !ok:
		return t
	case h.load == t.Op:
		return leaf(api.RTmp, h.temp)
	}
	return cut(t.Op, leaf(api.RTmp, h.temp))
}

// homeOf tells the temporary that is at a place.
func (w *settler) homeOf(t api.Tree) (home, bool) {
	at := w.take(t)
	n, ok := w.local(at)
	if !ok || !w.fixed.has(n) {
		return home{}, false
	}
	_, by := w.parted(at)
	return w.homes[slot{n, by}], true
}

// steps tells steps whose trees are settled, without stores to what is not loaded.
func (w *settler) steps(l []api.Step) []api.Step {
	var own []api.Step
	for _, s := range l {
		if s.Op == api.GStore {
			n, ok := w.local(w.take(s.Args[0]))
			if ok && !w.loaded.has(n) {
				continue
			}
			if h, ok := w.homeOf(s.Args[0]); ok {
				s = api.Step{Op: api.GSet, To: h.temp, Args: []api.Tree{cut(h.load, s.Args[1])}}
			}
		}
		own = append(own, s)
	}
	return own
}
