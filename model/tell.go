package model

import (
	"gantlet/api"
	"gantlet/checked"
)

// operand is a value, and the type as which it counts.
type operand struct {
	t api.Type
	v api.Val
}

// tell tells an expression's value.
func (c *call) tell(e api.Expr) api.Val {
	if !c.Count(1) {
		return api.Val{}
	}
	switch e.Op {
	case api.ENum, api.ESize:
		return number(e.N)
	case api.EName, api.EIndex, api.EDeref:
		return c.content(e)
	case api.EAddr:
		return c.place(e.Kids[0])
	case api.EMinus, api.EComp, api.ENot, api.ECast:
		return c.ofOne(e)
	case api.EPreInc, api.EPreDec, api.EPostInc, api.EPostDec:
		return c.stepped(e)
	case api.ELand, api.ELor:
		return c.decided(e)
	case api.ECond:
		return c.either(e)
	case api.EAssign:
		return c.assigned(e)
	case api.ECall:
		return c.called(e)
	}
	a := c.operand(e.Kids[0])
	b := c.operand(e.Kids[1])
	return c.ofTwo(e.Op, a, b)
}

func (c *call) operand(e api.Expr) operand {
	return operand{checked.Counted(e), c.tell(e)}
}

// place tells where an expression's element is; nothing is read there.
func (c *call) place(e api.Expr) api.Val {
	if !c.Count(1) {
		return api.Val{}
	}
	return c.found(e)
}

// found tells a place of which the step is counted already.
func (c *call) found(e api.Expr) api.Val {
	switch e.Op {
	case api.EIndex:
		p := c.tell(e.Kids[0])
		return c.move(p, c.tell(e.Kids[1]).N)
	case api.EDeref:
		return c.tell(e.Kids[0])
	}
	if e.N < 0 {
		// The globals are the first objects, from number 1 on.
		return api.Val{Obj: int(-e.N)}
	}
	return api.Val{Obj: c.first + int(e.N)}
}

// content tells what is at a place; of an array, which is none, the place itself.
func (c *call) content(e api.Expr) api.Val {
	p := c.found(e)
	if e.Type.Len > 0 {
		return p
	}
	return c.load(p)
}

func (c *call) load(p api.Val) api.Val {
	c.Require(c.holds(p))
	return c.at(p)
}

func (c *call) store(p, v api.Val) {
	c.Require(c.holds(p))
	c.set(p, v)
}

func (c *call) move(p api.Val, by int64) api.Val {
	q, ok := c.moved(p, by)
	c.Require(ok)
	return q
}

// decided tells && and ||, whose second operand is asked only where the first one leaves it open.
func (c *call) decided(e api.Expr) api.Val {
	first := truth(c.tell(e.Kids[0]))
	if first == (e.Op == api.ELor) {
		return ofTruth(first)
	}
	return ofTruth(truth(c.tell(e.Kids[1])))
}

func (c *call) either(e api.Expr) api.Val {
	kid := e.Kids[2]
	if truth(c.tell(e.Kids[0])) {
		kid = e.Kids[1]
	}
	return converted(e.Type, c.tell(kid))
}

func (c *call) assigned(e api.Expr) api.Val {
	t := e.Type
	p := c.place(e.Kids[0])
	if e.N == api.ENone {
		v := converted(t, c.tell(e.Kids[1]))
		c.store(p, v)
		return v
	}
	old := operand{t, c.load(p)}
	v := converted(t, c.ofTwo(int(e.N), old, c.operand(e.Kids[1])))
	c.store(p, v)
	return v
}

// stepped tells ++ and --, ahead of a place and behind it.
func (c *call) stepped(e api.Expr) api.Val {
	op := api.EAdd
	if e.Op == api.EPreDec || e.Op == api.EPostDec {
		op = api.ESub
	}
	t := e.Type
	p := c.place(e.Kids[0])
	old := c.load(p)
	one := operand{api.Type{Kind: api.TI32}, number(1)}
	v := converted(t, c.ofTwo(op, operand{t, old}, one))
	c.store(p, v)
	if e.Op == api.EPostInc || e.Op == api.EPostDec {
		return old
	}
	return v
}

func (c *call) called(e api.Expr) api.Val {
	switch e.N {
	case checked.CallPut:
		c.Put(c.tell(e.Kids[0]).N)
		return api.Val{}
	case checked.CallGet:
		return number(c.Get())
	case checked.CallExit:
		c.End(api.OExit, c.tell(e.Kids[0]).N)
		return api.Val{}
	}
	f := &c.funcs[e.N]
	var args []api.Val
	for i, k := range e.Kids {
		args = append(args, converted(f.Params[i], c.tell(k)))
	}
	return c.call(f, args)
}
