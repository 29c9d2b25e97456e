package model

import "gantlet/api"

// inside is what a statement stands in: the numbers of the statements that its continue, its
// break and its cases belong to, and the kind of its switch's values.
type inside struct {
	loop, out, choice int
	kind              int
}

// flattener brings a function's statements into one row.
type flattener struct {
	function
	held int // how many statements have a number
}

func flat(f api.Func) function {
	w := flattener{function: function{main: f.Name == "main", ret: f.Ret, marks: map[mark]int{}}}
	for _, d := range f.Params {
		w.params = append(w.params, d.Type)
	}
	for _, d := range f.Locals {
		w.locals = append(w.locals, elements(d.Type))
	}
	w.stmts(f.Body, inside{})
	return w.function
}

func (w *flattener) stmts(l []api.Stmt, in inside) {
	for _, s := range l {
		w.stmt(s, in)
	}
}

func (w *flattener) stmt(s api.Stmt, in inside) {
	switch s.Op {
	case api.SCase:
		w.set(mark{what: atCase, of: in.choice, value: fit(in.kind, s.N)})
	case api.SDefault:
		w.set(mark{what: atDefault, of: in.choice})
	case api.SLabel:
		w.set(mark{what: atLabel, name: s.Name})
	}
	w.add(move{does: doBegin})
	switch s.Op {
	case api.SExpr:
		w.add(move{does: doTell, expr: s.Expr[0]})
	case api.SDecl:
		w.add(move{does: doMake, expr: only(s.Expr), local: int(s.N), t: s.Type})
	case api.SReturn:
		w.add(move{does: doReturn, expr: only(s.Expr)})
	case api.SBreak:
		w.jump(mark{what: atEnd, of: in.out})
	case api.SContinue:
		w.jump(mark{what: atNext, of: in.loop})
	case api.SGoto:
		w.jump(mark{what: atLabel, name: s.Name})
	case api.SBlock:
		w.stmts(s.Body, in)
	case api.SIf, api.SWhile, api.SDo, api.SFor, api.SSwitch:
		w.held++
		w.holding(s, in, w.held)
	}
}

// only tells the one expression of a list, or ENone.
func only(l []api.Expr) api.Expr {
	if len(l) == 0 {
		return api.Expr{}
	}
	return l[0]
}

func (w *flattener) jump(to mark) {
	w.add(move{does: doJump, to: to})
}

// holding brings a statement of a number, and all that it holds, into the row.
func (w *flattener) holding(s api.Stmt, in inside, n int) {
	switch s.Op {
	case api.SIf:
		w.either(s, in, n)
	case api.SSwitch:
		in.out, in.choice, in.kind = n, n, promoted(counted(s.Expr[0]))
		w.add(move{does: doChoose, expr: s.Expr[0], to: mark{what: atEnd, of: n}})
		w.stmts(s.Body, in)
	default:
		in.loop, in.out = n, n
		w.loop(s, in, n)
	}
	w.set(mark{what: atEnd, of: n})
}

func (w *flattener) either(s api.Stmt, in inside, n int) {
	w.add(move{does: doUnless, expr: s.Expr[0], to: mark{what: atElse, of: n}})
	w.stmt(s.Body[0], in)
	others := s.Body[1:]
	if len(others) > 0 {
		w.jump(mark{what: atEnd, of: n})
	}
	w.set(mark{what: atElse, of: n})
	w.stmts(others, in)
}

func (w *flattener) loop(s api.Stmt, in inside, n int) {
	body, next, end := mark{what: atBody, of: n}, mark{what: atNext, of: n}, mark{what: atEnd, of: n}
	switch s.Op {
	case api.SWhile:
		w.set(next)
		w.add(move{does: doUnless, expr: s.Expr[0], to: end})
		w.stmts(s.Body, in)
		w.jump(next)
	case api.SDo:
		w.set(body)
		w.stmts(s.Body, in)
		w.set(next)
		w.add(move{does: doIf, expr: s.Expr[0], to: body})
	case api.SFor:
		w.perhaps(move{does: doTell, expr: s.Expr[0]})
		w.set(body)
		w.perhaps(move{does: doUnless, expr: s.Expr[1], to: end})
		w.stmts(s.Body, in)
		w.set(next)
		w.perhaps(move{does: doTell, expr: s.Expr[2]})
		w.jump(body)
	}
}

// perhaps adds a move of an expression, if that was not left out.
func (w *flattener) perhaps(m move) {
	if m.expr.Op != api.ENone {
		w.add(m)
	}
}
