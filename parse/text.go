package parse

import (
	"strconv"

	"gantlet/api"
)

// Text tells a text of a unit. Brackets and blanks stand only where nothing else will
// do: so it is neither longer nor deeper than a text that the unit was parsed from.
func Text(u api.Unit) (string, api.Errno) {
	w := writer{places: places(), blanks: map[[2]string]int{}}
	for _, d := range u.Globals {
		w.global(d)
	}
	for _, f := range u.Funcs {
		w.function(f)
	}
	if w.err != api.OK {
		return "", w.err
	}
	return w.text.String(), api.OK
}

func (w *writer) global(d api.Decl) {
	w.declared(d.Type, d.Name)
	if len(d.Init) > 0 {
		w.write("=")
		w.initial(d.Init, d.Type.Len > 0)
	}
	w.write(";")
}

func (w *writer) initial(l []int64, array bool) {
	if !array {
		w.value(l[0])
		return
	}
	w.write("{")
	for i, n := range l {
		w.comma(i)
		w.value(n)
	}
	w.write("}")
}

func (w *writer) function(f api.Func) {
	w.declared(f.Ret, f.Name)
	w.write("(")
	for i, d := range f.Params {
		w.comma(i)
		w.declared(d.Type, d.Name)
	}
	w.write(")")
	w.block(f.Body)
}

// comma writes one ahead of all of several things but the first.
func (w *writer) comma(i int) {
	if i > 0 {
		w.write(",")
	}
}

// declared writes a type and the name that has it.
func (w *writer) declared(t api.Type, name string) {
	w.typeOf(t)
	w.write(name)
	if t.Len > 0 {
		w.write("[", strconv.Itoa(t.Len), "]")
	}
}

func (w *writer) typeOf(t api.Type) {
	w.base(t.Kind)
	for i := 0; i < t.Ptr && w.err == api.OK; i++ {
		w.write("*")
	}
}

// base writes the words of a kind. Function integer says how kinds of integers stand.
func (w *writer) base(kind int) {
	if kind == api.TVoid {
		w.write("void")
		return
	}
	if kind < api.TI8 || kind > api.TU64 {
		w.fail(api.ErrForm)
		return
	}
	n := uint(kind - api.TI8)
	if n&1 == 1 {
		w.write("unsigned")
	}
	w.write(sizes[n>>1])
}

func (w *writer) value(n int64) {
	magnitude := uint64(n)
	if n < 0 {
		w.write("-")
		magnitude = -magnitude
	}
	w.write(strconv.FormatUint(magnitude, 10))
}

func (w *writer) block(l []api.Stmt) {
	w.write("{")
	for _, s := range l {
		w.stmt(s)
	}
	w.write("}")
}

func (w *writer) stmt(s api.Stmt) {
	if !w.begin() {
		return
	}
	switch s.Op {
	case api.SEmpty:
		w.write(";")
	case api.SExpr:
		w.expr(at(w, s.Expr, 0), levelAssign)
		w.write(";")
	case api.SDecl:
		w.declared(s.Type, s.Name)
		if len(s.Expr) > 0 {
			w.write("=")
			w.expr(s.Expr[0], levelAssign)
		}
		w.write(";")
	case api.SBlock:
		w.block(s.Body)
	case api.SCase:
		w.write("case")
		w.value(s.N)
		w.write(":")
	case api.SDefault:
		w.write("default", ":")
	case api.SLabel:
		w.write(s.Name, ":")
	case api.SIf, api.SWhile, api.SDo, api.SFor, api.SSwitch:
		w.holding(s)
	default:
		w.leaving(s)
	}
}

// leaving writes a statement that leaves the place where it stands.
func (w *writer) leaving(s api.Stmt) {
	switch s.Op {
	case api.SBreak:
		w.write("break")
	case api.SContinue:
		w.write("continue")
	case api.SGoto:
		w.write("goto", s.Name)
	case api.SReturn:
		w.write("return")
		if len(s.Expr) > 0 {
			w.expr(s.Expr[0], levelAssign)
		}
	default:
		w.fail(api.ErrForm)
	}
	w.write(";")
}

// holding writes a statement that holds another one. That an else comes to its if needs
// no brackets: a unit that was parsed has none that would come to another one.
func (w *writer) holding(s api.Stmt) {
	switch s.Op {
	case api.SIf:
		w.write("if")
		w.asked(s)
	case api.SWhile:
		w.write("while")
		w.asked(s)
	case api.SSwitch:
		w.write("switch")
		w.asked(s)
	case api.SFor:
		w.write("for")
		w.course(s)
	case api.SDo:
		w.write("do")
	}
	w.stmt(at(w, s.Body, 0))
	switch {
	case s.Op == api.SDo:
		w.write("while")
		w.asked(s)
		w.write(";")
	case s.Op == api.SIf && len(s.Body) > 1:
		w.write("else")
		w.stmt(s.Body[1])
	}
}

func (w *writer) asked(s api.Stmt) {
	w.write("(")
	w.expr(at(w, s.Expr, 0), levelAssign)
	w.write(")")
}

func (w *writer) course(s api.Stmt) {
	w.write("(")
	for i, end := range [...]string{";", ";", ")"} {
		if e := at(w, s.Expr, i); e.Op != api.ENone {
			w.expr(e, levelAssign)
		}
		w.write(end)
	}
}

// expr writes an expression where one of a level is asked for.
func (w *writer) expr(e api.Expr, level int) {
	if !w.begin() {
		return
	}
	p := w.placeOf(e)
	if p.level >= level {
		w.bare(e, p)
		return
	}
	w.write("(")
	w.bare(e, p)
	w.write(")")
}

// placeOf tells an expression's level, and its sign, if it has one of its own.
func (w *writer) placeOf(e api.Expr) place {
	m := meaning{op: e.Op}
	if e.Op == api.EAssign {
		m.n = e.N
	}
	if p, ok := w.places[m]; ok {
		return p
	}
	if e.Op == api.ECast || e.Op == api.ESize {
		return place{level: levelUnary}
	}
	return place{level: levelPrimary}
}

func (w *writer) bare(e api.Expr, p place) {
	switch {
	case p.sign == "":
		w.signless(e)
	case p.level == levelUnary:
		w.write(p.sign)
		w.expr(at(w, e.Kids, 0), levelUnary)
	case p.level == levelPostfix:
		w.expr(at(w, e.Kids, 0), levelPostfix)
		w.write(p.sign)
		if e.Op == api.EIndex {
			w.expr(at(w, e.Kids, 1), levelAssign)
			w.write("]")
		}
	case p.level == levelCond:
		w.expr(at(w, e.Kids, 0), levelLor)
		w.write(p.sign)
		w.expr(at(w, e.Kids, 1), levelAssign)
		w.write(":")
		w.expr(at(w, e.Kids, 2), levelCond)
	case p.level == levelAssign:
		w.expr(at(w, e.Kids, 0), levelCond)
		w.write(p.sign)
		w.expr(at(w, e.Kids, 1), levelAssign)
	default:
		w.expr(at(w, e.Kids, 0), p.level)
		w.write(p.sign)
		w.expr(at(w, e.Kids, 1), p.level+1)
	}
}

func (w *writer) signless(e api.Expr) {
	switch e.Op {
	case api.ENum:
		w.value(e.N)
	case api.EName:
		w.write(e.Name)
	case api.ECast:
		w.write("(")
		w.typeOf(e.Type)
		w.write(")")
		w.expr(at(w, e.Kids, 0), levelUnary)
	case api.ESize:
		w.write("sizeof", "(")
		w.typeOf(e.Type)
		w.write(")")
	case api.ECall:
		w.write(e.Name, "(")
		for i, k := range e.Kids {
			w.comma(i)
			w.expr(k, levelAssign)
		}
		w.write(")")
	default:
		w.fail(api.ErrForm)
	}
}
