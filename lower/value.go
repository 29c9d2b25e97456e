package lower

import (
	"gantlet/api"
	"gantlet/checked"
)

// most is how many nodes the tree of a part may have, so that what is made of some parts, and of a
// few more nodes, has at most api.MaxTree.
const most = 60

// tell tells an expression's value. The steps that it takes are made; the tree itself is still to
// be told, ahead of all that changes what it hangs on.
func (f *maker) tell(e api.Expr) api.Tree {
	t := f.value(e)
	if size(t) > most {
		return f.keep(t)
	}
	return t
}

func (f *maker) value(e api.Expr) api.Tree {
	switch e.Op {
	case api.ENum, api.ESize:
		return con(e.N)
	case api.EName, api.EIndex, api.EDeref:
		return f.content(e)
	case api.EAddr:
		return f.place(e.Kids[0]).at
	case api.EMinus, api.EComp, api.ENot, api.ECast:
		return ofOne(e.Op, e.Type, f.operand(e.Kids[0]))
	case api.EPreInc, api.EPreDec, api.EPostInc, api.EPostDec:
		return f.stepped(e, true)
	case api.EAssign:
		return f.assigned(e, true)
	case api.ELand, api.ELor:
		return f.decided(e)
	case api.ECond:
		return f.either(e)
	case api.ECall:
		return f.called(e, true)
	}
	a, b := f.both(e.Kids[0], e.Kids[1])
	return ofTwo(e.Op, a, b).tree
}

func (f *maker) operand(e api.Expr) operand {
	return operand{checked.Counted(e), f.tell(e)}
}

// as tells an expression's value as one of a type.
func (f *maker) as(t api.Type, e api.Expr) api.Tree {
	return converted(t, f.operand(e))
}

// both tells two operands, the first one as it is ahead of what the second one changes.
func (f *maker) both(a, b api.Expr) (operand, operand) {
	x := f.operand(a)
	x.tree = f.hold(x.tree, f.touched(b))
	return x, f.operand(b)
}

// spot is a place: a temporary, or an address.
type spot struct {
	temp int // none: it is in memory
	at   api.Tree
	t    api.Type // of what is there
}

// place tells where an expression's element is.
func (f *maker) place(e api.Expr) spot {
	s := spot{temp: f.register(e), t: e.Type}
	switch {
	case e.Op == api.EIndex:
		p, i := f.both(e.Kids[0], e.Kids[1])
		s.at = ofTwo(api.EAdd, p, i).tree
	case e.Op == api.EDeref:
		s.at = f.tell(e.Kids[0])
	case e.N < 0:
		// The globals have the places from -1 on.
		s.at = leaf(api.RGlo, int(-1-e.N))
	case s.temp == none:
		s.at = leaf(api.RLoc, f.slots[int(e.N)])
	}
	return s
}

// content tells what is at a place; of an array, which is none, its address.
func (f *maker) content(e api.Expr) api.Tree {
	s := f.place(e)
	if e.Type.Len > 0 {
		return s.at
	}
	return s.content()
}

func (s spot) content() api.Tree {
	if s.temp != none {
		return leaf(api.RTmp, s.temp)
	}
	return loaded(s.t, s.at)
}

// fixed tells a place that is asked twice. An address of few nodes that is not in memory itself is
// told twice.
func (f *maker) fixed(s spot) spot {
	if size(s.at) > 3 || f.read(s.at)&memory != 0 {
		s.at = f.keep(s.at)
	}
	return s
}

// change stores a value in a place, and tells it, if that is asked.
func (f *maker) change(s spot, v api.Tree, asked bool) api.Tree {
	if s.temp != none {
		f.set(s.temp, v)
		return s.content()
	}
	if asked && len(v.Kids) > 0 {
		v = f.keep(v)
	}
	f.store(checked.Bytes(s.t), s.at, v)
	return v
}

func (f *maker) assigned(e api.Expr, asked bool) api.Tree {
	s := f.place(e.Kids[0])
	changes := f.touched(e.Kids[1])
	s.at = f.hold(s.at, changes)
	if e.N == api.ENone {
		return f.change(s, f.as(s.t, e.Kids[1]), asked)
	}
	s = f.fixed(s)
	old := operand{s.t, f.hold(s.content(), changes)}
	return f.change(s, converted(s.t, ofTwo(int(e.N), old, f.operand(e.Kids[1]))), asked)
}

// stepped tells ++ and --, ahead of a place and behind it.
func (f *maker) stepped(e api.Expr, asked bool) api.Tree {
	op := api.EAdd
	if e.Op == api.EPreDec || e.Op == api.EPostDec {
		op = api.ESub
	}
	behind := e.Op == api.EPostInc || e.Op == api.EPostDec
	s := f.fixed(f.place(e.Kids[0]))
	old := s.content()
	if behind && asked {
		old = f.keep(old)
	}
	one := operand{api.Type{Kind: api.TI32}, con(1)}
	v := f.change(s, converted(s.t, ofTwo(op, operand{s.t, old}, one)), asked && !behind)
	if behind {
		return old
	}
	return v
}

// do makes what an expression changes; its value is not asked.
func (f *maker) do(e api.Expr) {
	if f.touched(e) == 0 {
		return
	}
	switch e.Op {
	case api.EPreInc, api.EPreDec, api.EPostInc, api.EPostDec:
		f.stepped(e, false)
	case api.EAssign:
		f.assigned(e, false)
	case api.ELand, api.ELor:
		f.perhaps(e)
	case api.ECond:
		f.oneOf(e)
	case api.ECall:
		f.called(e, false)
	default:
		for _, k := range e.Kids {
			f.do(k)
		}
	}
}

// called makes a call, and tells what comes of it, if that is asked.
func (f *maker) called(e api.Expr, asked bool) api.Tree {
	s := api.Step{To: none, Args: f.arguments(e)}
	switch e.N {
	case checked.CallPut:
		s.Op = api.GPut
	case checked.CallGet:
		s.Op, s.To = api.GGet, f.temp()
	case checked.CallExit:
		s.Op = api.GExit
	default:
		s.Op, s.Fn = api.GCall, int(e.N)
		if asked {
			s.To = f.temp()
		}
	}
	f.step(s)
	if s.To == none {
		return api.Tree{}
	}
	return leaf(api.RTmp, s.To)
}

// arguments tells those of a call, each one as it is ahead of what the later ones change.
func (f *maker) arguments(e api.Expr) []api.Tree {
	var l []api.Tree
	for i, k := range e.Kids {
		v := f.as(f.asked(e, i), k)
		for _, later := range e.Kids[i+1:] {
			v = f.hold(v, f.touched(later))
		}
		l = append(l, v)
	}
	return l
}

// asked tells the type of a call's argument.
func (f *maker) asked(e api.Expr, i int) api.Type {
	if e.N < 0 {
		return api.Type{Kind: api.TI64}
	}
	return f.funcs[e.N].Params[i].Type
}
