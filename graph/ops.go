package graph

import (
	"gantlet/api"
	"gantlet/num"
)

// kinds are those of the numbers that loads tell, and to which the ops of one number bring it.
var kinds = [...]int{
	api.RLoad8:   api.TI8,
	api.RLoad16:  api.TI16,
	api.RLoad32:  api.TI32,
	api.RLoad64:  api.TI64,
	api.RLoadU8:  api.TU8,
	api.RLoadU16: api.TU16,
	api.RLoadU32: api.TU32,
	api.RExt8:    api.TI8,
	api.RExt16:   api.TI16,
	api.RExt32:   api.TI32,
	api.RZext8:   api.TU8,
	api.RZext16:  api.TU16,
	api.RZext32:  api.TU32,
}

func number(n int64) api.Val {
	return api.Val{N: n}
}

func isPlace(v api.Val) bool {
	return v.Obj > 0
}

// fitted tells a number as an op of one number has it. All that stand here have a kind.
func fitted(op int, n int64) api.Val {
	n, _ = num.Fit(kinds[op], n)
	return number(n)
}

// reckoned tells what an op makes of two numbers. All that stand here are num's.
func reckoned(op int, a, b int64) api.Val {
	n, _ := num.Bin(op, a, b)
	return number(n)
}

// ofOne tells what an op of one value makes of it.
func (r *run) ofOne(op int, v api.Val) api.Val {
	r.Require(!isPlace(v))
	return fitted(op, v.N)
}

// ofTwo tells what an op of two values makes of them.
func (r *run) ofTwo(op int, a, b api.Val) api.Val {
	if !isPlace(a) && !isPlace(b) {
		return reckoned(op, a.N, b.N)
	}
	switch op {
	case api.RAdd:
		return r.added(a, b)
	case api.RSub:
		return r.subtracted(a, b)
	case api.REq, api.RNe:
		r.Require(r.mayMatch(a, b))
		return ofTruth((a == b) == (op == api.REq))
	case api.RLt, api.RLtU, api.RLe, api.RLeU:
		return r.ofPlaces(op, a, b)
	}
	r.Require(false)
	return api.Val{}
}

// added tells a sum of which at least one part is a place.
func (r *run) added(a, b api.Val) api.Val {
	if !isPlace(a) {
		a, b = b, a
	}
	r.Require(!isPlace(b))
	return r.move(a, b.N)
}

// subtracted tells a difference of which at least one part is a place.
func (r *run) subtracted(a, b api.Val) api.Val {
	if isPlace(b) {
		return r.ofPlaces(api.RSub, a, b)
	}
	// Less the least number is far beyond the end, and that number, which it is again, far
	// below the begin: both are stuck.
	return r.move(a, -b.N)
}

// ofPlaces tells an op of how far two places are from their object's begin.
func (r *run) ofPlaces(op int, p, q api.Val) api.Val {
	r.Require(r.mayOrder(p, q))
	return reckoned(op, p.N, q.N)
}

// move tells a place moved by so many bytes. What does not fit into 64 bits comes out below 0.
func (r *run) move(p api.Val, by int64) api.Val {
	p.N += by
	r.Require(r.mayBe(p))
	return p
}

// load tells what a load's op finds at a place.
func (r *run) load(op int, p api.Val) api.Val {
	size, _ := num.Bytes(kinds[op])
	r.Require(r.holds(int64(size), p))
	v := r.read(p)
	if isPlace(v) {
		return v
	}
	return fitted(op, v.N)
}

// store puts a value to a place. Just elements of 8 bytes may be places.
func (r *run) store(size int, p, v api.Val) {
	r.Require(r.holds(int64(size), p))
	r.Require(!isPlace(v) || size == 8)
	if !r.Ended() {
		r.write(p, v)
	}
}

func ofTruth(is bool) api.Val {
	if is {
		return number(1)
	}
	return number(0)
}
