package model

import (
	"gantlet/api"
	"gantlet/num"
)

// reckoning is num's op for numbers with a sign, and that for numbers without.
type reckoning struct {
	signed, unsigned int
}

// ops are the reckonings of two integers. Of > and >= the operands change places.
var ops = [...]reckoning{
	api.EMul: {api.RMul, api.RMul},
	api.EDiv: {api.RDiv, api.RDivU},
	api.EMod: {api.RRem, api.RRemU},
	api.EAdd: {api.RAdd, api.RAdd},
	api.ESub: {api.RSub, api.RSub},
	api.EShl: {api.RShl, api.RShl},
	api.EShr: {api.RSar, api.RShr},
	api.ELt:  {api.RLt, api.RLtU},
	api.ELe:  {api.RLe, api.RLeU},
	api.EGt:  {api.RLt, api.RLtU},
	api.EGe:  {api.RLe, api.RLeU},
	api.EEq:  {api.REq, api.REq},
	api.ENe:  {api.RNe, api.RNe},
	api.EAnd: {api.RAnd, api.RAnd},
	api.EXor: {api.RXor, api.RXor},
	api.EOr:  {api.ROr, api.ROr},
}

// reckon tells what an op makes of two numbers of a kind.
func reckon(op, kind int, x, y int64) int64 {
	if op == api.EGt || op == api.EGe {
		x, y = y, x
	}
	with := ops[op].unsigned
	if signed(kind) {
		with = ops[op].signed
	}
	n, err := num.Bin(with, x, y)
	if err != api.OK {
		return 0
	}
	return fit(kind, n)
}

// ofOne tells an op of one operand.
func (c *call) ofOne(e api.Expr) api.Val {
	v := c.tell(e.Kids[0])
	kind := e.Type.Kind
	switch e.Op {
	case api.EMinus:
		return number(reckon(api.ESub, kind, 0, fit(kind, v.N)))
	case api.EComp:
		return number(reckon(api.EXor, kind, fit(kind, v.N), fit(kind, -1)))
	case api.ENot:
		return ofTruth(!truth(v))
	}
	return number(fit(kind, v.N))
}

// ofTwo tells an op of two operands.
func (c *call) ofTwo(op int, a, b operand) api.Val {
	switch {
	case isPointer(a.t) && op == api.EAdd:
		return c.move(a.v, b.v.N)
	case isPointer(b.t) && op == api.EAdd:
		return c.move(b.v, a.v.N)
	case isPointer(a.t) && op == api.ESub && !isPointer(b.t):
		return c.move(a.v, -b.v.N)
	case isPointer(a.t) || isPointer(b.t):
		return c.ofPointers(op, a.v, b.v)
	case op == api.EShl || op == api.EShr:
		kind := promoted(a.t)
		return number(reckon(op, kind, fit(kind, a.v.N), b.v.N&(bits(kind)-1)))
	}
	kind := common(a.t, b.t)
	return number(reckon(op, kind, fit(kind, a.v.N), fit(kind, b.v.N)))
}

// ofPointers tells an op of two pointers.
func (c *call) ofPointers(op int, p, q api.Val) api.Val {
	if op == api.EEq || op == api.ENe {
		c.Require(c.mayMatch(p, q))
		return ofTruth((p == q) == (op == api.EEq))
	}
	c.Require(c.mayOrder(p, q))
	return number(reckon(op, api.TI64, p.N, q.N))
}
