package model_test

import (
	"math/big"

	"gantlet/api"
)

// A second model, made in another way: it walks through the trees of statements, and to get to a
// label or a case it walks through them again without doing anything until it is there; numbers are
// those of big_test.go; each end is a panic.

// thing is an object, cell a value: a number, or a place in a thing.
type thing struct {
	cells []cell
	gone  bool
}

type cell struct {
	n  *big.Int
	in *thing
	at int64
}

// ending is what is thrown where a program ends.
type ending struct{ o api.Outcome }

// walk is a program that is walked through; frame a call of it.
type walk struct {
	u     api.Unit
	in    []int64
	fuel  int
	calls int
	all   []*thing
	o     api.Outcome
}

type frame struct {
	*walk
	f      api.Func
	things []*thing
	seek   func(s api.Stmt) bool // what is sought yet
	given  cell                  // what is returned
	label  string                // where a goto leads
}

// How a statement goes on.
const (
	on = iota
	broken
	continued
	returned
	gone
)

func zero() cell { return cell{n: new(big.Int)} }

func newThing(t api.Type) *thing {
	x := &thing{}
	for range max(1, t.Len) {
		x.cells = append(x.cells, zero())
	}
	return x
}

// walked tells how a checked unit ends.
func walked(u api.Unit, in []int64, fuel int) (o api.Outcome) {
	w := &walk{u: u, in: in, fuel: fuel}
	defer func() {
		e, is := recover().(ending)
		if !is {
			panic("no ending")
		}
		o = e.o
	}()
	for _, d := range u.Globals {
		x := newThing(d.Type)
		for i, n := range d.Init {
			x.cells[i] = w.as(d.Type, cell{n: big.NewInt(n)})
		}
		w.all = append(w.all, x)
	}
	for _, f := range u.Funcs {
		if f.Name == "main" {
			w.end(api.OExit, asLong(w.call(f, nil).n))
		}
	}
	return o
}

func (w *walk) end(kind int, code int64) {
	w.o.Kind, w.o.Code = kind, code
	if kind == api.OStuck {
		w.o = api.Outcome{Kind: kind}
	}
	panic(ending{w.o})
}

func (w *walk) need(holds bool) {
	if !holds {
		w.end(api.OStuck, 0)
	}
}

func (w *walk) step(n int) {
	for range n {
		if w.o.Steps == w.fuel {
			w.end(api.OFuel, 0)
		}
		w.o.Steps++
	}
}

func (w *walk) as(t api.Type, c cell) cell {
	if t.Ptr == 0 && t.Kind != api.TVoid {
		return cell{n: within(t.Kind, c.n)}
	}
	return c
}

func (w *walk) call(f api.Func, args []cell) cell {
	if w.calls++; w.calls > 64 {
		w.end(api.OOver, 0)
	}
	w.o.Deep = max(w.o.Deep, w.calls)
	fr := &frame{walk: w, f: f, given: zero()}
	for i, d := range f.Locals {
		x := newThing(d.Type)
		w.step(len(x.cells))
		if i < len(args) {
			x.cells[0] = args[i]
		}
		fr.things = append(fr.things, x)
	}
	how := fr.stmts(f.Body)
	for how == gone {
		fr.seek = func(s api.Stmt) bool { return s.Op == api.SLabel && s.Name == fr.label }
		how = fr.stmts(f.Body)
	}
	w.need(how == returned || f.Name == "main" || f.Ret == api.Type{})
	for _, x := range fr.things {
		x.gone = true
	}
	w.calls--
	return fr.given
}

func (f *frame) stmts(l []api.Stmt) int {
	for _, s := range l {
		if how := f.stmt(s); how != on {
			return how
		}
	}
	return on
}

// stmt does a statement, or, where something is sought, goes into it.
func (f *frame) stmt(s api.Stmt) int {
	if f.seek != nil && f.seek(s) {
		f.seek = nil
	}
	seeking := f.seek != nil
	if !seeking {
		f.step(1)
	}
	switch s.Op {
	case api.SBlock:
		return f.stmts(s.Body)
	case api.SIf:
		return f.choice(s, seeking)
	case api.SWhile, api.SDo, api.SFor:
		return f.loop(s, seeking)
	case api.SSwitch:
		return f.selection(s, seeking)
	}
	if seeking {
		return on
	}
	return f.simple(s)
}

func (f *frame) simple(s api.Stmt) int {
	switch s.Op {
	case api.SExpr:
		f.value(s.Expr[0])
	case api.SDecl:
		x := newThing(s.Type)
		if len(s.Expr) > 0 {
			x.cells[0] = f.as(s.Type, f.value(s.Expr[0]))
		}
		f.step(len(x.cells))
		f.things[s.N].cells = x.cells
	case api.SBreak:
		return broken
	case api.SContinue:
		return continued
	case api.SGoto:
		f.label = s.Name
		return gone
	case api.SReturn:
		if len(s.Expr) > 0 {
			f.given = f.as(f.f.Ret, f.value(s.Expr[0]))
		}
		return returned
	}
	return on
}

func (f *frame) choice(s api.Stmt, seeking bool) int {
	if !seeking {
		if f.holds(s.Expr[0]) {
			return f.stmt(s.Body[0])
		}
		return f.stmts(s.Body[1:])
	}
	how := f.stmt(s.Body[0])
	if f.seek != nil {
		return f.stmts(s.Body[1:])
	}
	return how
}

func (f *frame) loop(s api.Stmt, seeking bool) int {
	if s.Op == api.SFor && !seeking {
		f.perhaps(s.Expr[0])
	}
	ahead := s.Op != api.SDo
	for {
		if ahead && !seeking && !f.goesOn(s) {
			return on
		}
		how := f.stmt(s.Body[0])
		if f.seek != nil || how == broken {
			return on
		}
		if how == returned || how == gone {
			return how
		}
		seeking = false
		if s.Op == api.SFor {
			f.perhaps(s.Expr[2])
		}
		if !ahead && !f.goesOn(s) {
			return on
		}
	}
}

func (f *frame) perhaps(e api.Expr) {
	if e.Op != api.ENone {
		f.value(e)
	}
}

func (f *frame) goesOn(s api.Stmt) bool {
	e := s.Expr[0]
	if s.Op == api.SFor {
		e = s.Expr[1]
	}
	return e.Op == api.ENone || f.holds(e)
}

func (f *frame) selection(s api.Stmt, seeking bool) int {
	if !seeking {
		v := f.value(s.Expr[0])
		kind := typeOf(s.Expr[0]).Kind
		kind = joined(kind, kind)
		// A case that a switch within has is never this one's: it is a statement of other depth.
		mine := cases(s.Body)
		value := func(c api.Stmt) bool {
			return c.Op == api.SCase && within(kind, big.NewInt(c.N)).Cmp(within(kind, v.n)) == 0
		}
		others := func(c api.Stmt) bool { return c.Op == api.SDefault }
		for _, is := range []func(api.Stmt) bool{value, others} {
			for _, c := range mine {
				if is(c) && f.seek == nil {
					f.seek = func(x api.Stmt) bool { return x.Op == c.Op && x.Pos == c.Pos }
				}
			}
		}
		if f.seek == nil {
			return on
		}
	}
	how := f.stmt(s.Body[0])
	if how == broken {
		return on
	}
	return how
}

// cases tells all cases and defaults that belong to the switch whose body it is. Each one has a
// place of its own in the text.
func cases(l []api.Stmt) []api.Stmt {
	var found []api.Stmt
	for _, s := range l {
		if s.Op == api.SCase || s.Op == api.SDefault {
			found = append(found, s)
		}
		if s.Op != api.SSwitch {
			found = append(found, cases(s.Body)...)
		}
	}
	return found
}

// typeOf tells as what an operand counts.
func typeOf(e api.Expr) api.Type {
	t := e.Type
	if e.Op == api.ESize {
		t = api.Type{Kind: api.TU64}
	}
	if t.Len > 0 {
		t.Len, t.Ptr = 0, t.Ptr+1
	}
	return t
}

func (f *frame) holds(e api.Expr) bool { return isTrue(f.value(e)) }

func isTrue(c cell) bool { return c.in != nil || c.n.Sign() != 0 }

// where tells a place.
func (f *frame) where(e api.Expr) cell {
	f.step(1)
	switch e.Op {
	case api.EDeref:
		return f.value(e.Kids[0])
	case api.EIndex:
		p := f.value(e.Kids[0])
		return f.shifted(p, f.value(e.Kids[1]), 1)
	}
	if e.N < 0 {
		return cell{n: new(big.Int), in: f.all[-1-e.N]}
	}
	return cell{n: new(big.Int), in: f.things[e.N]}
}

// shifted tells a pointer moved by a number, or (sign -1) by less it.
func (f *frame) shifted(p, by cell, sign int64) cell {
	f.need(p.in != nil && !p.in.gone)
	n := new(big.Int).Mul(big.NewInt(asLong(by.n)), big.NewInt(sign))
	n.Add(n, big.NewInt(p.at))
	f.need(n.Sign() >= 0 && n.Cmp(big.NewInt(int64(len(p.in.cells)))) <= 0)
	return cell{n: new(big.Int), in: p.in, at: n.Int64()}
}

func (f *frame) element(p cell) *cell {
	f.need(p.in != nil && !p.in.gone && p.at < int64(len(p.in.cells)))
	return &p.in.cells[p.at]
}

// value tells what an expression is.
func (f *frame) value(e api.Expr) cell {
	switch e.Op {
	case api.EName, api.EIndex, api.EDeref:
		p := f.where(e)
		if e.Type.Len > 0 {
			return p
		}
		return *f.element(p)
	}
	f.step(1)
	switch e.Op {
	case api.ENum, api.ESize:
		return cell{n: big.NewInt(e.N)}
	case api.EAddr:
		return f.where(e.Kids[0])
	case api.EPreInc, api.EPreDec, api.EPostInc, api.EPostDec, api.EAssign:
		return f.change(e)
	case api.ELand, api.ELor:
		is := f.holds(e.Kids[0])
		if is == (e.Op == api.ELand) {
			is = f.holds(e.Kids[1])
		}
		return cell{n: ofBool(is)}
	case api.ECond:
		if f.holds(e.Kids[0]) {
			return f.as(e.Type, f.value(e.Kids[1]))
		}
		return f.as(e.Type, f.value(e.Kids[2]))
	case api.ECall:
		return f.callOf(e)
	}
	a := f.value(e.Kids[0])
	k := typeOf(e.Kids[0]).Kind
	switch e.Op {
	case api.EMinus:
		return cell{n: within(e.Type.Kind, new(big.Int).Neg(a.n))}
	case api.EComp:
		return cell{n: within(e.Type.Kind, new(big.Int).Not(within(joined(k, k), a.n)))}
	case api.ENot:
		return cell{n: ofBool(!isTrue(a))}
	case api.ECast:
		return f.as(e.Type, a)
	}
	return f.both(e.Op, typeOf(e.Kids[0]), typeOf(e.Kids[1]), a, f.value(e.Kids[1]))
}

// change tells what is stored, or what was there ahead of that.
func (f *frame) change(e api.Expr) cell {
	p := f.where(e.Kids[0])
	t := e.Kids[0].Type
	one, single := cell{n: big.NewInt(1)}, api.Type{Kind: api.TI32}
	var v cell
	old := zero()
	switch {
	case e.Op == api.EAssign && e.N == 0:
		v = f.value(e.Kids[1])
	case e.Op == api.EAssign:
		old = *f.element(p)
		v = f.both(int(e.N), t, typeOf(e.Kids[1]), old, f.value(e.Kids[1]))
	case e.Op == api.EPreInc || e.Op == api.EPostInc:
		old = *f.element(p)
		v = f.both(api.EAdd, t, single, old, one)
	default:
		old = *f.element(p)
		v = f.both(api.ESub, t, single, old, one)
	}
	v = f.as(t, v)
	*f.element(p) = v
	if e.Op == api.EPostInc || e.Op == api.EPostDec {
		return old
	}
	return v
}

func (f *frame) both(op int, s, t api.Type, a, b cell) cell {
	switch {
	case s.Ptr == 0 && t.Ptr == 0:
		return cell{n: ofBoth(op, s.Kind, t.Kind, a.n, b.n)}
	case op == api.EAdd && s.Ptr > 0:
		return f.shifted(a, b, 1)
	case op == api.EAdd:
		return f.shifted(b, a, 1)
	case op == api.ESub && t.Ptr == 0:
		return f.shifted(a, b, -1)
	case op == api.EEq || op == api.ENe:
		equal := a.in == b.in && a.at == b.at
		if a.in != nil && b.in != nil {
			f.need(!a.in.gone && !b.in.gone)
			f.need(a.in == b.in || a.at < int64(len(a.in.cells)) && b.at < int64(len(b.in.cells)))
		}
		return cell{n: ofBool(equal == (op == api.EEq))}
	}
	f.need(a.in == b.in && (a.in == nil || !a.in.gone))
	if op == api.ESub {
		return cell{n: big.NewInt(a.at - b.at)}
	}
	return cell{n: ofBool(compares(op, big.NewInt(a.at).Cmp(big.NewInt(b.at))))}
}

func (f *frame) callOf(e api.Expr) cell {
	var args []cell
	for i, k := range e.Kids {
		t := api.Type{Kind: api.TI64}
		if e.N >= 0 {
			t = f.u.Funcs[e.N].Params[i].Type
		}
		args = append(args, f.as(t, f.value(k)))
	}
	switch e.N {
	case -1:
		f.o.Out = append(f.o.Out, args[0].n.Int64())
		return zero()
	case -2:
		n := new(big.Int)
		if len(f.in) > 0 {
			n.SetInt64(f.in[0])
			f.in = f.in[1:]
		}
		return cell{n: n}
	case -3:
		f.end(api.OExit, args[0].n.Int64())
	}
	return f.call(f.u.Funcs[e.N], args)
}
