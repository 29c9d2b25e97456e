package opt

import "gantlet/api"

// facts are what is known of a tree by its nodes alone.
type facts struct {
	size     int
	isNumber bool   // wherever it tells something
	object   label  // the local or global of which it tells a place, wherever it does so; none, if that is not known
	locals   locals // those that stand in it
}

// factsOf tells those of a node that comes to have a label.
func (f *forest) factsOf(n node, own label) facts {
	a, b := f.of(n.kids[0]).facts, f.of(n.kids[1]).facts
	all := facts{size: 1 + a.size + b.size, isNumber: isNumber(n.op, a, b), locals: a.locals | b.locals}
	switch n.op {
	case api.RLoc:
		all.object, all.locals = own, 1<<n.n
	case api.RGlo:
		all.object = own
	case api.RAdd:
		all.object = max(a.object, b.object)
	case api.RSub:
		// Less what may be a place it may be a number.
		if b.isNumber {
			all.object = a.object
		}
	}
	return all
}

// isNumber tells whether an op of two things tells numbers alone.
func isNumber(op int, a, b facts) bool {
	switch op {
	case api.RTmp, api.RLoc, api.RGlo, api.RLoad64:
		return false
	case api.RAdd, api.RSub:
		return a.isNumber && b.isNumber
	}
	return true
}

// parted tells a place as another one and a number that is added to it, as fold leaves such.
func (f *forest) parted(l label) (label, int64) {
	p := f.of(l)
	if p.op == api.RAdd && f.isCon(p.kids[1]) {
		return p.kids[0], f.of(p.kids[1]).n
	}
	return l, 0
}

// isFixed tells whether a tree is a number, or a place in an object that is known.
func (f *forest) isFixed(l label) bool {
	at, _ := f.parted(l)
	op := f.of(at).op
	return op == api.RLoc || op == api.RGlo || f.isCon(l)
}

// mayMeet tells whether two places of elements of the same size may be the same one. No other place
// than one told of itself is one of a private local.
func (f *forest) mayMeet(a, b label, private locals) bool {
	x, n := f.parted(a)
	y, m := f.parted(b)
	p, q := f.of(a).object, f.of(b).object
	switch {
	case x == y:
		return n == m
	case p != none && q != none:
		return p == q
	case p != none:
		return f.mayLead(b, p, private)
	case q != none:
		return f.mayLead(a, q, private)
	}
	return true
}

// mayLead tells whether a place in some object may be one of that local or global.
func (f *forest) mayLead(at, object label, private locals) bool {
	n := f.of(object).n
	return !f.isPrivate(object, private) || f.of(at).locals.has(n)
}

// isPrivate tells whether an object is a private local.
func (f *forest) isPrivate(object label, private locals) bool {
	p := f.of(object)
	return p.op == api.RLoc && private.has(p.n)
}
