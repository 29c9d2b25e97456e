package fold

import (
	"math"
	"math/bits"

	"gantlet/api"
)

// span is where numbers are: from lo up to hi.
type span struct{ lo, hi int64 }

var everywhere = span{math.MinInt64, math.MaxInt64}

// span tells where numbers of a shape are.
func (s shape) span() span {
	switch {
	case s.bits == whole:
		return everywhere
	case s.signed:
		return span{-1 << (s.bits - 1), 1<<(s.bits-1) - 1}
	}
	return span{0, 1<<s.bits - 1}
}

// spanOf tells where the numbers are that an op makes of numbers of two spans.
func spanOf(n node, a, b span) span {
	switch n.op {
	case api.RCon:
		return span{n.n, n.n}
	case api.RAdd:
		return a.plus(b)
	case api.RSub:
		return a.plus(b.negated())
	case api.RMul:
		return a.times(b)
	case api.RDiv, api.RDivU, api.RRem, api.RRemU:
		return a.divided(n.op, b)
	case api.RAnd, api.ROr, api.RXor:
		return a.mixed(n.op, b)
	case api.RShl, api.RShr, api.RSar:
		return a.shifted(n.op, b)
	}
	if compares.has(n.op) {
		return span{0, 1}
	}
	if s := shapes[n.op]; s.bits > 0 {
		return s.span()
	}
	return everywhere
}

func (s span) holds(t span) bool {
	return s.lo <= t.lo && t.hi <= s.hi
}

// isPlain tells whether no number of a span is below 0.
func (s span) isPlain() bool {
	return s.lo >= 0
}

// width tells how many of the lowest bits of a span's numbers may be 1.
func (s span) width() int {
	if !s.isPlain() {
		return whole
	}
	return bits.Len64(uint64(s.hi))
}

// room tells how many bits a span's numbers need beside their sign.
func (s span) room() int {
	return max(bits.Len64(uint64(s.lo^s.lo>>63)), bits.Len64(uint64(s.hi^s.hi>>63)))
}

// unsigned tells where a span's numbers are without signs.
func (s span) unsigned() (lo, hi uint64) {
	if s.lo < 0 && s.hi >= 0 {
		return 0, math.MaxUint64
	}
	return uint64(s.lo), uint64(s.hi)
}

func (s span) plus(t span) span {
	lo, hi := s.lo+t.lo, s.hi+t.hi
	if (lo < s.lo) != (t.lo < 0) || (hi < s.hi) != (t.hi < 0) {
		return everywhere
	}
	return span{lo, hi}
}

func (s span) negated() span {
	if s.lo == math.MinInt64 {
		return everywhere
	}
	return span{-s.hi, -s.lo}
}

// times looks at numbers of 32 bits alone, so that no product of two is too large.
func (s span) times(t span) span {
	if s.room() > 31 || t.room() > 31 {
		return everywhere
	}
	a, b, c, d := s.lo*t.lo, s.lo*t.hi, s.hi*t.lo, s.hi*t.hi
	return span{min(a, b, c, d), max(a, b, c, d)}
}

// divided tells of quotients and rests by numbers above 0 alone: of others these may be far away.
func (s span) divided(op int, t span) span {
	if t.lo <= 0 {
		return everywhere
	}
	switch rest := t.hi - 1; {
	case op == api.RDiv:
		return span{min(s.lo/t.lo, 0), max(s.hi/t.lo, 0)}
	case op == api.RRem:
		return span{max(min(s.lo, 0), -rest), min(max(s.hi, 0), rest)}
	case op == api.RRemU && s.isPlain():
		return span{0, min(s.hi, rest)}
	case op == api.RRemU:
		return span{0, rest}
	}
	_, hi := s.unsigned()
	hi /= uint64(t.lo)
	if hi > math.MaxInt64 {
		return everywhere
	}
	return span{0, int64(hi)}
}

// mixed tells of and, or, xor: of each bit by itself.
func (s span) mixed(op int, t span) span {
	if op == api.RAnd && (s.isPlain() || t.isPlain()) {
		return span{0, smallest(s, t)}
	}
	hi := int64(1)<<max(s.room(), t.room()) - 1
	if s.isPlain() && t.isPlain() {
		return span{0, hi}
	}
	return span{-1 - hi, hi}
}

// smallest tells the end of that one of two spans that is plain; of both, the lower one's.
func smallest(s, t span) int64 {
	switch {
	case !s.isPlain():
		return t.hi
	case !t.isPlain():
		return s.hi
	}
	return min(s.hi, t.hi)
}

// shifted tells of shifts: by a number that is known, or by any.
func (s span) shifted(op int, by span) span {
	n := by.lo & 63
	switch {
	case op == api.RShl && (by.lo != by.hi || s.lo<<n>>n != s.lo || s.hi<<n>>n != s.hi):
		return everywhere
	case op == api.RShl:
		return span{s.lo << n, s.hi << n}
	case op == api.RShr && !s.isPlain() && (by.lo != by.hi || n == 0):
		return everywhere
	case op == api.RShr && !s.isPlain():
		return span{0, math.MaxInt64 >> (n - 1)}
	case by.lo == by.hi:
		return span{s.lo >> n, s.hi >> n}
	}
	return span{min(s.lo, 0), max(s.hi, -1)}
}
