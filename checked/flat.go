package checked

import "gantlet/api"

// inside is what a statement stands in: the numbers of the statements that its continue, its
// break and its cases belong to, and the kind of its switch's values.
type inside struct {
	loop, out, choice int
	kind              int
}

// flattener brings a function's statements into one row.
type flattener struct {
	Row
	held int // how many statements have a number
}

// RowOf tells a function of a checked unit as a row.
func RowOf(f api.Func) Row {
	w := flattener{Row: Row{Main: f.Name == "main", Ret: f.Ret, Marks: map[Mark]int{}}}
	for _, d := range f.Params {
		w.Params = append(w.Params, d.Type)
	}
	for _, d := range f.Locals {
		w.Locals = append(w.Locals, d.Type)
	}
	w.stmts(f.Body, inside{})
	return w.Row
}

func (w *flattener) stmts(l []api.Stmt, in inside) {
	for _, s := range l {
		w.stmt(s, in)
	}
}

func (w *flattener) stmt(s api.Stmt, in inside) {
	switch s.Op {
	case api.SCase:
		w.set(Mark{What: AtCase, Of: in.choice, Value: Fit(in.kind, s.N)})
	case api.SDefault:
		w.set(Mark{What: AtDefault, Of: in.choice})
	case api.SLabel:
		w.set(Mark{What: AtLabel, Name: s.Name})
	}
	w.add(Move{Does: DoBegin})
	switch s.Op {
	case api.SExpr:
		w.add(Move{Does: DoTell, Expr: s.Expr[0]})
	case api.SDecl:
		w.add(Move{Does: DoMake, Expr: only(s.Expr), Local: int(s.N), Type: s.Type})
	case api.SReturn:
		w.add(Move{Does: DoReturn, Expr: only(s.Expr)})
	case api.SBreak:
		w.jump(Mark{What: AtEnd, Of: in.out})
	case api.SContinue:
		w.jump(Mark{What: AtNext, Of: in.loop})
	case api.SGoto:
		w.jump(Mark{What: AtLabel, Name: s.Name})
	case api.SBlock:
		w.stmts(s.Body, in)
	case api.SIf, api.SWhile, api.SDo, api.SFor, api.SSwitch:
		w.held++
		w.holding(s, in, w.held)
	}
}

// only tells the one expression of a list, or ENone.
func only(l []api.Expr) api.Expr {
	if len(l) == 0 {
		return api.Expr{}
	}
	return l[0]
}

func (w *flattener) jump(to Mark) {
	w.add(Move{Does: DoJump, To: to})
}

// holding brings a statement of a number, and all that it holds, into the row.
func (w *flattener) holding(s api.Stmt, in inside, n int) {
	switch s.Op {
	case api.SIf:
		w.either(s, in, n)
	case api.SSwitch:
		in.out, in.choice, in.kind = n, n, Promoted(Counted(s.Expr[0]))
		w.add(Move{Does: DoChoose, Expr: s.Expr[0], To: Mark{What: AtEnd, Of: n}})
		w.stmts(s.Body, in)
	default:
		in.loop, in.out = n, n
		w.loop(s, in, n)
	}
	w.set(Mark{What: AtEnd, Of: n})
}

func (w *flattener) either(s api.Stmt, in inside, n int) {
	w.add(Move{Does: DoUnless, Expr: s.Expr[0], To: Mark{What: AtElse, Of: n}})
	w.stmt(s.Body[0], in)
	others := s.Body[1:]
	if len(others) > 0 {
		w.jump(Mark{What: AtEnd, Of: n})
	}
	w.set(Mark{What: AtElse, Of: n})
	w.stmts(others, in)
}

func (w *flattener) loop(s api.Stmt, in inside, n int) {
	body, next, end := Mark{What: AtBody, Of: n}, Mark{What: AtNext, Of: n}, Mark{What: AtEnd, Of: n}
	switch s.Op {
	case api.SWhile:
		w.set(next)
		w.add(Move{Does: DoUnless, Expr: s.Expr[0], To: end})
		w.stmts(s.Body, in)
		w.jump(next)
	case api.SDo:
		w.set(body)
		w.stmts(s.Body, in)
		w.set(next)
		w.add(Move{Does: DoIf, Expr: s.Expr[0], To: body})
	case api.SFor:
		w.perhaps(Move{Does: DoTell, Expr: s.Expr[0]})
		w.set(body)
		w.perhaps(Move{Does: DoUnless, Expr: s.Expr[1], To: end})
		w.stmts(s.Body, in)
		w.set(next)
		w.perhaps(Move{Does: DoTell, Expr: s.Expr[2]})
		w.jump(body)
	}
}

// perhaps adds a move of an expression, if that was not left out.
func (w *flattener) perhaps(m Move) {
	if m.Expr.Op != api.ENone {
		w.add(m)
	}
}
