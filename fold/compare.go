package fold

import "gantlet/api"

// compared tells a comparison. Of a match of just one RCon, that is b.
func (f *folder) compared(op int, a, b label) label {
	if n, ok := f.decided(op, a, b); ok {
		return f.con(n)
	}
	if !matches.has(op) {
		return f.two(op, a, b)
	}
	if n, ok := f.constant(b); ok {
		return f.matched(op, a, n)
	}
	if l, ok := f.change(a, b); ok {
		return f.pair(op, l, f.con(0), whole)
	}
	if l, ok := f.change(b, a); ok {
		return f.pair(op, l, f.con(0), whole)
	}
	return f.two(op, a, b)
}

// decided tells what comes of a comparison, where that does not hang on temporaries and memory.
func (f *folder) decided(op int, a, b label) (int64, bool) {
	x, n := f.parted(a)
	y, m := f.parted(b)
	p, q := f.of(a), f.of(b)
	switch {
	case a == b:
		return reckoned(op, 0, 0), true
	case x == y && matches.has(op):
		return reckoned(op, n, m), true
	case x == y && p.kind == place:
		// How far places are from an object's begin is never below 0.
		return reckoned(signed(op), n, m), true
	case matches.has(op) && f.areApart(a, b):
		return reckoned(op, 0, 1), true
	}
	return bySpans(op, p.span, q.span)
}

// areApart tells whether no two values that may be held against each other can be the same: a place
// and 0, places of two objects.
func (f *folder) areApart(a, b label) bool {
	p, q := f.of(a).kind, f.of(b).kind
	if p == place && q == place {
		return f.root(a) != f.root(b)
	}
	return p == place && q == number || p == number && q == place
}

// bySpans tells what comes of a comparison of all numbers of two spans.
func bySpans(op int, s, t span) (int64, bool) {
	if op != signed(op) {
		a, b := s.unsigned()
		c, d := t.unsigned()
		return inOrder(op, a, b, c, d)
	}
	return inOrder(op, s.lo, s.hi, t.lo, t.hi)
}

// inOrder tells what comes of a comparison of all numbers from a to b with all from c to d.
func inOrder[T int64 | uint64](op int, a, b, c, d T) (int64, bool) {
	switch {
	case b < c:
		return reckoned(op, 0, 1), true
	case a > d:
		return reckoned(op, 1, 0), true
	case b == c && signed(op) == api.RLe:
		return 1, true
	case a == d && signed(op) == api.RLt:
		return 0, true
	}
	return 0, false
}

// matched tells whether a tree is a number, or is not.
func (f *folder) matched(op int, a label, n int64) label {
	if l, ok := f.truth(a, (op == api.REq) == (n == 1)); ok {
		return l
	}
	if x, m, ok := f.withConstant(api.RAdd, a); ok && (n != 0 || f.isNumber(x)) {
		// A place is never 0, but may be what was moved from one.
		return f.pair(op, x, f.con(n-m), whole)
	}
	if x, m, ok := f.lessened(a); ok {
		return f.pair(op, x, f.con(m-n), whole)
	}
	if x, m, ok := f.withConstant(api.RXor, a); ok {
		return f.pair(op, x, f.con(m^n), whole)
	}
	if n != 0 {
		return f.two(op, a, f.con(n))
	}
	if x, y, ok := f.with(api.RXor, a); ok {
		return f.pair(op, x, y, whole)
	}
	if x, y, ok := f.with(api.RSub, a); ok && (f.isNumber(x) || f.isPlace(y)) {
		return f.pair(op, x, y, whole)
	}
	return f.two(op, a, f.con(0))
}

// truth tells whether a tree that is 0 or 1 is 1, or whether it is 0.
func (f *folder) truth(l label, is bool) (label, bool) {
	p := f.of(l)
	switch {
	case !(span{0, 1}).holds(p.span):
		return none, false
	case is:
		return l, true
	case compares.has(p.op):
		return f.opposite(l), true
	}
	return none, false
}

// opposite tells a comparison that is 1 where another one is 0.
func (f *folder) opposite(l label) label {
	p := f.of(l).node
	a, b := p.kids[0], p.kids[1]
	switch p.op {
	case api.REq:
		return f.pair(api.RNe, a, b, whole)
	case api.RNe:
		return f.pair(api.REq, a, b, whole)
	case api.RLt:
		return f.pair(api.RLe, b, a, whole)
	case api.RLe:
		return f.pair(api.RLt, b, a, whole)
	case api.RLtU:
		return f.pair(api.RLeU, b, a, whole)
	}
	return f.pair(api.RLtU, b, a, whole)
}

// change tells what is added to b, or taken from it, in a.
func (f *folder) change(a, b label) (label, bool) {
	x, y, ok := f.with(api.RAdd, a)
	switch {
	case ok && x == b:
		return y, true
	case ok && y == b:
		return x, true
	}
	x, y, ok = f.with(api.RSub, a)
	return y, ok && x == b
}
