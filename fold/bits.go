package fold

import "gantlet/api"

// mixed tells and, or, xor. Where just one of a and b is an RCon, it is b.
func (f *folder) mixed(op int, a, b label, asked int) label {
	if n, ok := f.constant(b); ok {
		return f.mixedWith(op, a, lowest(n, asked), asked)
	}
	switch {
	case a == b && op == api.RXor:
		return f.con(0)
	case a == b:
		return a
	}
	if l, ok := f.left(op, a, b); ok {
		return l
	}
	if l, ok := f.left(op, b, a); ok {
		return l
	}
	return f.two(op, a, b)
}

// left tells what is left where b meets itself in a: of xor the other part of a, of and and or all.
func (f *folder) left(op int, a, b label) (label, bool) {
	x, y, ok := f.with(op, a)
	switch {
	case !ok || x != b && y != b:
		return none, false
	case op != api.RXor:
		return a, true
	case x == b:
		return y, true
	}
	return x, true
}

func (f *folder) mixedWith(op int, a label, n int64, asked int) label {
	switch {
	case op == api.RAnd:
		return f.maskedBy(a, n, asked)
	case n == 0:
		return a
	case op == api.ROr && n == -1:
		return f.con(-1)
	}
	if x, m, ok := f.withConstant(op, a); ok {
		return f.pair(op, x, f.con(reckoned(op, m, n)), asked)
	}
	if op == api.RXor && n == 1 && compares.has(f.of(a).op) {
		return f.opposite(a)
	}
	return f.two(op, a, f.con(n))
}

// maskedBy tells the bits of a that a mask has.
func (f *folder) maskedBy(a label, mask int64, asked int) label {
	p := f.of(a)
	within := shapes[p.op]
	switch w := p.span.width(); {
	case mask == 0:
		return f.con(0)
	case mask == -1 || w < whole && lowest(^mask, w) == 0:
		return a
	case cuts.has(p.op) && !within.signed:
		return f.pair(api.RAnd, p.kids[0], f.con(mask&within.span().hi), asked)
	}
	if x, n, ok := f.withConstant(api.RAnd, a); ok {
		return f.pair(api.RAnd, x, f.con(n&mask), asked)
	}
	if by, ok := power(mask + 1); ok {
		if op, ok := f.cutOf[shape{int(by), false}]; ok {
			return f.cut(op, a)
		}
	}
	return f.two(api.RAnd, a, f.con(mask))
}

// shifted tells a shift.
func (f *folder) shifted(op int, a, b label, asked int) label {
	if f.arePlain(a, a) {
		op = plain(op)
	}
	n, ok := f.constant(b)
	switch {
	case f.isConstant(a, 0), op == api.RSar && f.isConstant(a, -1):
		return a
	case !ok:
		return f.two(op, a, b)
	}
	return f.shiftedBy(op, a, n&63, asked)
}

func (f *folder) shiftedBy(op int, a label, n int64, asked int) label {
	switch {
	case n == 0:
		return a
	case op == api.RShl && n >= int64(asked):
		return f.con(0)
	}
	if x, m, ok := f.withConstant(op, a); ok {
		return f.twiceShifted(op, x, m&63+n, asked)
	}
	if x, m, ok := f.withConstant(api.RMul, a); ok && op == api.RShl {
		return f.pair(api.RMul, x, f.con(m<<n), asked)
	}
	if l, ok := f.backShifted(op, a, n); ok {
		return l
	}
	return f.two(op, a, f.con(n))
}

// twiceShifted tells two shifts the same way as one, which may be by 64 and more.
func (f *folder) twiceShifted(op int, a label, n int64, asked int) label {
	switch {
	case n < whole:
	case op == api.RSar:
		n = whole - 1
	default:
		return f.con(0)
	}
	return f.pair(op, a, f.con(n), asked)
}

// backShifted tells the shift back of what was shifted by as much: just some bits are left.
func (f *folder) backShifted(op int, a label, n int64) (label, bool) {
	p := f.of(a)
	if p.op != api.RShl && p.op != api.RShr && p.op != api.RSar {
		return none, false
	}
	x, by := p.kids[0], p.kids[1]
	m, ok := f.constant(by)
	switch {
	case !ok || m != n:
		return none, false
	case op == api.RShl:
		return f.pair(api.RAnd, x, f.con(-1<<n), whole), true
	case p.op == api.RShl && op == api.RShr:
		return f.pair(api.RAnd, x, f.con(1<<(whole-n)-1), whole), true
	case p.op == api.RShl:
		cut, ok := f.cutOf[shape{whole - int(n), true}]
		if ok {
			return f.cut(cut, x), true
		}
	}
	return none, false
}
