package fold

import "gantlet/api"

// kind is what a tree tells wherever it tells something.
type kind int

const (
	either kind = iota
	number
	place
)

// facts are what is known of a tree by its nodes alone, whatever temporaries and memory are.
type facts struct {
	size int
	kind kind
	span span // of the numbers that it may tell
}

func (f *forest) factsOf(n node) facts {
	a, b := f.of(n.kids[0]).facts, f.of(n.kids[1]).facts
	return facts{1 + a.size + b.size, kindOf(n.op, a.kind, b.kind), spanOf(n, a.span, b.span)}
}

// kindOf tells what an op tells of two kinds. A sum of two places, and a number less a place, tell
// nothing.
func kindOf(op int, a, b kind) kind {
	switch {
	case op == api.RTmp || op == api.RLoad64:
		return either
	case op == api.RLoc || op == api.RGlo:
		return place
	case op == api.RAdd && (a == place || b == place):
		return place
	case op == api.RSub && a == place && b == number:
		return place
	case op == api.RAdd && (a == either || b == either):
		return either
	case op == api.RSub && a != number && b != place:
		return either
	}
	return number
}

func (f *forest) isNumber(l label) bool {
	return f.of(l).kind == number
}

func (f *forest) isPlace(l label) bool {
	return f.of(l).kind == place
}

// root tells the local or global that a tree of kind place tells a place of.
func (f *forest) root(l label) label {
	for p := f.of(l); p.op != api.RLoc && p.op != api.RGlo; p = f.of(l) {
		l = p.kids[0]
		if !f.isPlace(l) {
			l = p.kids[1]
		}
	}
	return l
}

// parted tells a tree as another one and a number that is added to it.
func (f *forest) parted(l label) (label, int64) {
	if a, n, ok := f.withConstant(api.RAdd, l); ok {
		return a, n
	}
	return l, 0
}

// scaled tells a tree as another one and a number that it is multiplied by.
func (f *forest) scaled(l label) (label, int64) {
	if a, n, ok := f.withConstant(api.RMul, l); ok {
		return a, n
	}
	if a, n, ok := f.withConstant(api.RShl, l); ok {
		return a, 1 << (n & 63)
	}
	if a, ok := f.negated(l); ok {
		return a, -1
	}
	return l, 1
}

// negated tells what a tree takes from 0, if it does that.
func (f *forest) negated(l label) (label, bool) {
	a, b, ok := f.with(api.RSub, l)
	return b, ok && f.isConstant(a, 0)
}

func (f *forest) isConstant(l label, n int64) bool {
	p := f.of(l)
	return p.op == api.RCon && p.n == n
}
