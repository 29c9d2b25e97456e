package opt

import (
	"maps"

	"gantlet/api"
)

// way leads to a block, with what is known on it.
type way struct {
	to int
	state
}

// walk goes through a block. It may write the block anew: then it is known which temporary to ask for
// a tree.
type walk struct {
	*scan
	state
	block int
	site  origin // of the next load of which nothing is known
	*writer
}

// through tells a block anew, if it is written, and the ways to those behind it.
func (w *walk) through(b api.Block) (api.Block, []way) {
	own := b
	own.Steps = nil
	for i, s := range b.Steps {
		w.site = origin{w.block, i, 0}
		next, isNeeded := w.step(s)
		if w.writer != nil && isNeeded {
			own.Steps = append(own.Steps, next)
		}
		if isLast(s, w.notes) {
			return own, nil
		}
	}
	w.site = origin{w.block, len(b.Steps), 0}
	switch b.End {
	case api.EndJump:
		return w.jump(own)
	case api.EndBranch:
		return w.branch(own)
	}
	_, own.Cond = w.rewrite(b.Cond)
	return own, nil
}

// step does a step, and tells whether it does anything.
func (w *walk) step(s api.Step) (api.Step, bool) {
	var args [api.MaxParams]label
	var own []api.Tree
	for i, t := range s.Args {
		args[i], t = w.rewrite(t)
		if w.writer != nil {
			own = append(own, t)
		}
	}
	s.Args = own
	switch s.Op {
	case api.GSet:
		return s, w.set(s.To, args[0])
	case api.GStore:
		return s, w.store(s.Size, args[0], args[1])
	case api.GGet:
		w.set(s.To, w.leaf(origin{w.block, w.site.step, result}))
	case api.GCall:
		w.call(s)
	}
	return s, true
}

// set sets a temporary, and tells whether that changes it.
func (w *walk) set(to int, l label) bool {
	if w.resolved(w.temps[to]) == l {
		return false
	}
	if w.writer != nil {
		w.release(w.temps, to)
	}
	w.temps[to] = l
	if w.writer != nil {
		w.hold(w.temps, to)
	}
	return true
}

// store stores to an element, and tells whether that changes it.
func (w *walk) store(size int, at, l label) bool {
	if op := cutOf(loadOf(size)); op != api.RNone {
		l = w.one(op, l)
	}
	c := cell{at, size}
	if w.cells[c] == l {
		return false
	}
	maps.DeleteFunc(w.cells, func(k cell, _ label) bool {
		return k.size == size && w.mayMeet(k.at, at, w.private)
	})
	w.cells[c] = l
	return true
}

func (w *walk) call(s api.Step) {
	n := w.notes[s.Fn]
	if n.writes {
		maps.DeleteFunc(w.cells, func(k cell, _ label) bool {
			return !w.isPrivate(w.of(k.at).object, w.private)
		})
	}
	switch {
	case s.To == nowhere:
	case n.tells.isKnown:
		w.set(s.To, w.con(n.tells.n))
	default:
		w.set(s.To, w.leaf(origin{w.block, w.site.step, result}))
	}
}

// rewrite tells what a tree comes to, and the tree that is written in its place.
func (w *walk) rewrite(t api.Tree) (label, api.Tree) {
	l, own := w.tell(t)
	if w.writer != nil {
		t = w.fitted(own, t)
	}
	return l, t
}

// tell tells what a tree comes to, and how that is written with no regard to its size.
func (w *walk) tell(t api.Tree) (label, api.Tree) {
	n := node{op: t.Op, n: t.N}
	own := api.Tree{Op: t.Op, N: t.N}
	for i, k := range t.Kids {
		l, code := w.tell(k)
		n.kids[i] = l
		if w.writer != nil {
			own.Kids = append(own.Kids, code)
		}
	}
	var l label
	switch {
	case t.Op == api.RTmp:
		l = w.temps[t.N]
	case sizeOf(t.Op) > 0:
		l = w.load(t.Op, n.kids[0])
	default:
		l = w.folded(n)
	}
	l = w.resolved(l)
	if w.writer != nil {
		own = w.written(w.forest, l, own)
	}
	return l, own
}

// load tells what is loaded. Of an element of which nothing is known it is what a load tells of a place
// of its own, so that its size is known.
func (w *walk) load(op int, at label) label {
	size := sizeOf(op)
	c := cell{at, size}
	l := w.cells[c]
	if l == none {
		l = w.one(loadOf(size), w.leaf(w.site))
		w.site.part++
		w.cells[c] = l
	}
	if elements[op].unsigned {
		l = w.one(cutOf(op), l)
	}
	return l
}

func (w *walk) jump(b api.Block) (api.Block, []way) {
	next := way{b.Next, w.state}
	if w.writer != nil {
		b.Next = w.follow(next)
	}
	return b, []way{next}
}

func (w *walk) branch(b api.Block) (api.Block, []way) {
	l, cond := w.rewrite(b.Cond)
	if isZero, ok := w.decided(l); ok {
		if isZero {
			b.Next = b.Else
		}
		return w.jump(jumpTo(b.Steps, b.Next))
	}
	yes, no := way{b.Next, w.state.again()}, way{b.Else, w.state}
	yes.learn(w.forest, l, false)
	no.learn(w.forest, l, true)
	if w.writer != nil {
		b.Next, b.Else, b.Cond = w.follow(yes), w.follow(no), cond
		b = truthful(b)
	}
	return b, []way{yes, no}
}

func jumpTo(steps []api.Step, to int) api.Block {
	return api.Block{Steps: steps, End: api.EndJump, Next: to}
}

// decided tells whether a tree is 0, if that is known.
func (w *walk) decided(l label) (isZero, ok bool) {
	is := w.resolved(w.two(api.RNe, l, w.con(0)))
	return w.of(is).n == 0, w.isCon(is)
}

// follow tells where a way leads in the end, beyond blocks that do nothing but to go on where it is known
// where. In a ring of such it stays where it is.
func (w *walk) follow(on way) int {
	to := on.to
	for range w.graph.Blocks {
		next, ok := w.beyond(to, on.state)
		if !ok {
			return to
		}
		to = next
	}
	return on.to
}

// beyond tells where a block without steps goes on, if that is known. What its branch loads is not what
// the block itself loaded when the way came by there before: nothing is known of it but here.
func (w *walk) beyond(to int, s state) (int, bool) {
	b := w.graph.Blocks[to]
	if len(b.Steps) > 0 || b.End == api.EndReturn {
		return 0, false
	}
	if b.End == api.EndJump {
		return b.Next, true
	}
	ahead := walk{scan: w.scan, state: s.again(), site: origin{looked, 0, 0}}
	l, _ := ahead.tell(b.Cond)
	isZero, ok := ahead.decided(l)
	if isZero {
		return b.Else, ok
	}
	return b.Next, ok
}
