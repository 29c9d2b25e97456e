package model

import (
	"gantlet/api"
	"gantlet/checked"
)

// call is one of a function on its way.
type call struct {
	*run
	f     *function
	first int // the object that its first parameter or local is
}

// body goes through the moves, and tells what is returned.
func (c *call) body() api.Val {
	at := 0
	for at < len(c.f.Moves) && !c.Ended() {
		m := c.f.Moves[at]
		if m.Does == checked.DoReturn {
			return c.returned(m.Expr)
		}
		at = c.follow(m, at+1)
	}
	c.Require(c.f.MayEnd())
	return api.Val{}
}

func (c *call) returned(e api.Expr) api.Val {
	if e.Op == api.ENone {
		return api.Val{}
	}
	return converted(c.f.Ret, c.tell(e))
}

// follow does what a move does, and tells at which one to go on: next, if it leads nowhere else.
func (c *call) follow(m checked.Move, next int) int {
	leads := false
	switch m.Does {
	case checked.DoBegin:
		c.Count(1)
	case checked.DoTell:
		c.tell(m.Expr)
	case checked.DoMake:
		c.remake(m)
	case checked.DoJump:
		leads = true
	case checked.DoUnless:
		leads = !truth(c.tell(m.Expr))
	case checked.DoIf:
		leads = truth(c.tell(m.Expr))
	case checked.DoChoose:
		return c.chosen(m)
	}
	if leads {
		return c.f.Marks[m.To]
	}
	return next
}

// remake makes a local anew. It stays the same object: pointers to it still are.
func (c *call) remake(m checked.Move) {
	var v api.Val
	if m.Expr.Op != api.ENone {
		v = converted(m.Type, c.tell(m.Expr))
	}
	if !c.Count(checked.Elements(m.Type)) {
		return
	}
	place := api.Val{Obj: c.first + m.Local}
	c.wipe(place.Obj)
	c.set(place, v)
}

// chosen tells to where a switch leads.
func (c *call) chosen(m checked.Move) int {
	kind := checked.Promoted(checked.Counted(m.Expr))
	value := checked.Mark{What: checked.AtCase, Of: m.To.Of, Value: checked.Fit(kind, c.tell(m.Expr).N)}
	others := checked.Mark{What: checked.AtDefault, Of: m.To.Of}
	for _, k := range [...]checked.Mark{value, others} {
		if at, there := c.f.Marks[k]; there {
			return at
		}
	}
	return c.f.Marks[m.To]
}
