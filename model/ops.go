package model

import (
	"gantlet/api"
	"gantlet/checked"
	"gantlet/num"
)

// reckon tells what an op makes of two numbers of a kind.
func reckon(op, kind int, x, y int64) int64 {
	if checked.IsTurned(op) {
		x, y = y, x
	}
	n, err := num.Bin(checked.Op(op, kind), x, y)
	if err != api.OK {
		return 0
	}
	return checked.Fit(kind, n)
}

// ofOne tells an op of one operand.
func (c *call) ofOne(e api.Expr) api.Val {
	v := c.tell(e.Kids[0])
	kind := e.Type.Kind
	switch e.Op {
	case api.EMinus:
		return number(reckon(api.ESub, kind, 0, checked.Fit(kind, v.N)))
	case api.EComp:
		return number(reckon(api.EXor, kind, checked.Fit(kind, v.N), checked.Fit(kind, -1)))
	case api.ENot:
		return ofTruth(!truth(v))
	}
	return number(checked.Fit(kind, v.N))
}

// ofTwo tells an op of two operands.
func (c *call) ofTwo(op int, a, b operand) api.Val {
	switch {
	case checked.IsPointer(a.t) && op == api.EAdd:
		return c.move(a.v, b.v.N)
	case checked.IsPointer(b.t) && op == api.EAdd:
		return c.move(b.v, a.v.N)
	case checked.IsPointer(a.t) && op == api.ESub && !checked.IsPointer(b.t):
		return c.move(a.v, -b.v.N)
	case checked.IsPointer(a.t) || checked.IsPointer(b.t):
		return c.ofPointers(op, a.v, b.v)
	case op == api.EShl || op == api.EShr:
		kind := checked.Promoted(a.t)
		return number(reckon(op, kind, checked.Fit(kind, a.v.N), b.v.N&(checked.Bits(kind)-1)))
	}
	kind := checked.Common(a.t, b.t)
	return number(reckon(op, kind, checked.Fit(kind, a.v.N), checked.Fit(kind, b.v.N)))
}

// ofPointers tells an op of two pointers.
func (c *call) ofPointers(op int, p, q api.Val) api.Val {
	if op == api.EEq || op == api.ENe {
		c.Require(c.mayMatch(p, q))
		return ofTruth((p == q) == (op == api.EEq))
	}
	c.Require(c.mayOrder(p, q))
	return number(reckon(op, api.TI64, p.N, q.N))
}
