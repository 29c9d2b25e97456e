package model

import "gantlet/api"

// call is one of a function on its way.
type call struct {
	*run
	f     *function
	first int // the object that its first parameter or local is
}

// body goes through the moves, and tells what is returned.
func (c *call) body() api.Val {
	at := 0
	for at < len(c.f.moves) && !c.Ended() {
		m := c.f.moves[at]
		if m.does == doReturn {
			return c.returned(m.expr)
		}
		at = c.follow(m, at+1)
	}
	c.Require(c.f.mayEnd())
	return api.Val{}
}

func (c *call) returned(e api.Expr) api.Val {
	if e.Op == api.ENone {
		return api.Val{}
	}
	return converted(c.f.ret, c.tell(e))
}

// follow does what a move does, and tells at which one to go on: next, if it leads nowhere else.
func (c *call) follow(m move, next int) int {
	leads := false
	switch m.does {
	case doBegin:
		c.Count(1)
	case doTell:
		c.tell(m.expr)
	case doMake:
		c.remake(m)
	case doJump:
		leads = true
	case doUnless:
		leads = !truth(c.tell(m.expr))
	case doIf:
		leads = truth(c.tell(m.expr))
	case doChoose:
		return c.chosen(m)
	}
	if leads {
		return c.f.marks[m.to]
	}
	return next
}

// remake makes a local anew. It stays the same object: pointers to it still are.
func (c *call) remake(m move) {
	var v api.Val
	if m.expr.Op != api.ENone {
		v = converted(m.t, c.tell(m.expr))
	}
	if !c.Count(elements(m.t)) {
		return
	}
	place := api.Val{Obj: c.first + m.local}
	c.wipe(place.Obj)
	c.set(place, v)
}

// chosen tells to where a switch leads.
func (c *call) chosen(m move) int {
	t := counted(m.expr)
	value := mark{what: atCase, of: m.to.of, value: fit(promoted(t), c.tell(m.expr).N)}
	others := mark{what: atDefault, of: m.to.of}
	for _, k := range [...]mark{value, others} {
		if at, there := c.f.marks[k]; there {
			return at
		}
	}
	return c.f.marks[m.to]
}
