package graph

import "gantlet/api"

// call is one of a function on its way.
type call struct {
	*run
	graph *api.Graph
	first int // the object that its first local is
	temps []api.Val
}

// body goes through the blocks, and tells what is returned.
func (c *call) body() api.Val {
	at := 0
	for {
		b := &c.graph.Blocks[at]
		for i := range b.Steps {
			c.step(&b.Steps[i])
		}
		if !c.Count(1) {
			return api.Val{}
		}
		switch b.End {
		case api.EndReturn:
			return c.tell(&b.Cond)
		case api.EndBranch:
			at = b.Else
			if c.tell(&b.Cond) != (api.Val{}) {
				at = b.Next
			}
		default:
			at = b.Next
		}
	}
}

func (c *call) step(s *api.Step) {
	if !c.Count(1) {
		return
	}
	var args arguments
	for i := range s.Args {
		args[i] = c.tell(&s.Args[i])
	}
	switch s.Op {
	case api.GSet:
		c.setTemp(s.To, args[0])
	case api.GStore:
		c.store(s.Size, args[0], args[1])
	case api.GCall:
		c.setTemp(s.To, c.call(s.Fn, args))
	case api.GPut:
		c.put(args[0])
	case api.GGet:
		c.setTemp(s.To, number(c.Get()))
	case api.GExit:
		c.exit(args[0])
	}
}

// setTemp sets a temporary, if there is one to be set.
func (c *call) setTemp(to int, v api.Val) {
	if to != none {
		c.temps[to] = v
	}
}

// tell tells a tree's value.
func (c *call) tell(t *api.Tree) api.Val {
	switch t.Op {
	case api.RCon:
		return number(t.N)
	case api.RTmp:
		return c.temps[t.N]
	case api.RLoc:
		return api.Val{Obj: c.first + int(t.N)}
	case api.RGlo:
		// The globals are the first objects, from number 1 on.
		return api.Val{Obj: 1 + int(t.N)}
	}
	v := c.tell(&t.Kids[0])
	switch {
	case t.Op <= api.RLoadU32:
		return c.load(t.Op, v)
	case t.Op <= api.RLeU:
		return c.ofTwo(t.Op, v, c.tell(&t.Kids[1]))
	}
	return c.ofOne(t.Op, v)
}
