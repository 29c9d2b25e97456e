package fold

import "gantlet/api"

// What is moved forth and back may be a place, and beyond its object that is stuck. So parts change
// their order just where they are numbers, or where no place is told on the way that was not told
// before.

// sum tells a and b together. Where just one of them is an RCon, it is b.
func (f *folder) sum(a, b label, asked int) label {
	if n, ok := f.constant(b); ok {
		return f.raised(a, lowest(n, asked), asked)
	}
	if l, ok := f.undone(a, b); ok {
		return l
	}
	if l, ok := f.undone(b, a); ok {
		return l
	}
	if n, ok := f.negated(b); ok {
		return f.pair(api.RSub, a, n, asked)
	}
	if n, ok := f.negated(a); ok {
		return f.pair(api.RSub, b, n, asked)
	}
	if l, ok := f.gathered(a, b, asked); ok {
		return l
	}
	if l, ok := f.gathered(b, a, asked); ok {
		return l
	}
	x, n := f.scaled(a)
	if y, m := f.scaled(b); x == y {
		return f.pair(api.RMul, x, f.con(n+m), asked)
	}
	return f.two(api.RAdd, a, b)
}

// undone tells what is left where b is added to something less b.
func (f *folder) undone(a, b label) (label, bool) {
	x, y, ok := f.with(api.RSub, a)
	return x, ok && y == b
}

// gathered tells (x + n) + b as x + (b + n), where b is a number in which n has its place.
func (f *folder) gathered(a, b label, asked int) (label, bool) {
	x, n := f.parted(a)
	if n == 0 || asked == value && !f.isNumber(b) {
		return none, false
	}
	sum, ok := f.moved(b, n, min(asked, whole))
	if !ok {
		return none, false
	}
	return f.pair(api.RAdd, x, sum, asked), true
}

// raised adds a number to a tree.
func (f *folder) raised(a label, n int64, asked int) label {
	if n == 0 {
		return a
	}
	if l, ok := f.moved(a, n, asked); ok {
		return l
	}
	return f.two(api.RAdd, a, f.con(n))
}

// moved adds a number to a tree with no more nodes than that has, if there is an RCon in it that can
// take the number up.
func (f *folder) moved(l label, n int64, asked int) (label, bool) {
	if x, ok := f.constant(l); ok {
		return f.con(lowest(x+n, asked)), true
	}
	a, b, ok := f.with(api.RAdd, l)
	if ok {
		return f.movedKid(api.RAdd, a, b, n, n, asked)
	}
	a, b, ok = f.with(api.RSub, l)
	if ok {
		return f.movedKid(api.RSub, a, b, n, -n, asked)
	}
	return none, false
}

// movedKid adds toA to a, or toB to b, of a sum or a difference of both: to what must be a number, as a
// place might come beyond its object.
func (f *folder) movedKid(op int, a, b label, toA, toB int64, asked int) (label, bool) {
	isA, isB := f.isNumber(a), f.isNumber(b)
	if asked <= whole && (op == api.RAdd || isA || isB) {
		isA, isB = true, true
	}
	if isB {
		if l, ok := f.moved(b, toB, min(asked, whole)); ok {
			return f.pair(op, a, l, asked), true
		}
	}
	if isA {
		if l, ok := f.moved(a, toA, min(asked, whole)); ok {
			return f.pair(op, l, b, asked), true
		}
	}
	return none, false
}

// difference tells a less b.
func (f *folder) difference(a, b label, asked int) label {
	if n, ok := f.constant(b); ok {
		return f.pair(api.RAdd, a, f.con(-n), asked)
	}
	if a == b {
		return f.con(0)
	}
	if n, ok := f.negated(b); ok {
		return f.pair(api.RAdd, a, n, asked)
	}
	if l, ok := f.rest(a, b, asked); ok {
		return l
	}
	if l, ok := f.parts(a, b, asked); ok {
		return l
	}
	x, n := f.scaled(a)
	if y, m := f.scaled(b); x == y {
		return f.pair(api.RMul, x, f.con(n-m), asked)
	}
	return f.two(api.RSub, a, b)
}

// rest tells a less b where one of them is a part of the other one. That holds of places, too.
func (f *folder) rest(a, b label, asked int) (label, bool) {
	x, y, ok := f.with(api.RAdd, a)
	switch {
	case ok && x == b:
		return y, true
	case ok && y == b:
		return x, true
	}
	x, y, ok = f.with(api.RSub, a)
	if ok && x == b {
		return f.pair(api.RSub, f.con(0), y, asked), true
	}
	x, y, ok = f.with(api.RSub, b)
	switch {
	case ok && x == a:
		return y, true
	case ok && f.isConstant(a, 0):
		return f.pair(api.RSub, y, x, asked), true
	}
	x, y, ok = f.with(api.RAdd, b)
	switch {
	case ok && x == a:
		return f.pair(api.RSub, f.con(0), y, asked), true
	case ok && y == a:
		return f.pair(api.RSub, f.con(0), x, asked), true
	}
	return none, false
}

// parts tells a less b where RCons that are parts of them come together.
func (f *folder) parts(a, b label, asked int) (label, bool) {
	x, n := f.parted(a)
	y, m := f.parted(b)
	bits := min(asked, whole)
	if x == y || n != 0 && m != 0 && (asked <= whole || f.isPlace(b)) {
		return f.pair(api.RAdd, f.pair(api.RSub, x, y, asked), f.con(n-m), asked), true
	}
	if n != 0 && f.isNumber(b) {
		if l, ok := f.moved(b, -n, bits); ok {
			return f.pair(api.RSub, x, l, asked), true
		}
	}
	if !f.isNumber(a) {
		return none, false
	}
	if m != 0 {
		if l, ok := f.moved(a, -m, bits); ok {
			return f.pair(api.RSub, l, y, asked), true
		}
	}
	if z, k, ok := f.lessened(b); ok {
		if l, ok := f.moved(a, -k, bits); ok {
			return f.pair(api.RAdd, l, z, asked), true
		}
	}
	return none, false
}

// lessened tells what a tree takes from a number, and that number, if it does that.
func (f *folder) lessened(l label) (label, int64, bool) {
	a, b, ok := f.with(api.RSub, l)
	n, isN := f.constant(a)
	return b, n, ok && isN
}
