package fold

import (
	"math"
	"math/bits"

	"gantlet/api"
)

// product tells a times b. Where just one of them is an RCon, it is b.
func (f *folder) product(a, b label, asked int) label {
	n, ok := f.constant(b)
	if !ok {
		return f.two(api.RMul, a, b)
	}
	n = lowest(n, asked)
	x, m := f.scaled(a)
	by, isPower := power(n)
	switch {
	case n == 0:
		return f.con(0)
	case n == 1:
		return a
	case x != a:
		return f.pair(api.RMul, x, f.con(m*n), asked)
	case n == -1:
		return f.pair(api.RSub, f.con(0), a, asked)
	case isPower:
		return f.pair(api.RShl, a, f.con(by), asked)
	}
	return f.two(api.RMul, a, f.con(n))
}

// power tells which power of two a number without sign is, if it is one.
func power(n int64) (int64, bool) {
	return int64(bits.TrailingZeros64(uint64(n))), bits.OnesCount64(uint64(n)) == 1
}

// quotient tells a quotient or a rest.
func (f *folder) quotient(op int, a, b label) label {
	if f.arePlain(a, b) {
		op = plain(op)
	}
	isRest := op == api.RRem || op == api.RRemU
	switch {
	case isRest && a == b, isRest && f.isConstant(a, 0):
		return f.con(0)
	case f.isBelow(a, b) && isRest:
		return a
	case f.isBelow(a, b):
		return f.con(0)
	}
	n, ok := f.constant(b)
	switch {
	case !ok:
		return f.two(op, a, b)
	case isRest:
		return f.restBy(op, a, n)
	}
	return f.quotientBy(op, a, n)
}

func (f *folder) arePlain(a, b label) bool {
	return f.of(a).span.isPlain() && f.of(b).span.isPlain()
}

// isBelow tells whether a is from 0 up to below b.
func (f *folder) isBelow(a, b label) bool {
	s, t := f.of(a).span, f.of(b).span
	return s.isPlain() && s.hi < t.lo
}

// restBy tells what a division by a number leaves.
func (f *folder) restBy(op int, a label, n int64) label {
	by, isPower := power(n)
	switch {
	case n == 0:
		return a
	case op == api.RRem && (n == 1 || n == -1):
		return f.con(0)
	case op == api.RRemU && isPower:
		return f.pair(api.RAnd, a, f.con(1<<by-1), whole)
	}
	return f.two(op, a, f.con(n))
}

// quotientBy tells what a division by a number tells.
func (f *folder) quotientBy(op int, a label, n int64) label {
	by, isPower := power(n)
	switch {
	case n == 0:
		return f.con(-1)
	case n == 1:
		return a
	case op == api.RDiv && n == -1:
		return f.pair(api.RSub, f.con(0), a, whole)
	case op == api.RDivU && isPower:
		return f.pair(api.RShr, a, f.con(by), whole)
	}
	if x, m, ok := f.withConstant(op, a); ok && m > 0 && n > 0 && n <= math.MaxInt64/m {
		return f.pair(op, x, f.con(m*n), whole)
	}
	return f.two(op, a, f.con(n))
}
