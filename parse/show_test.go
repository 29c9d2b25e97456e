package parse_test

import (
	"slices"
	"strconv"
	"strings"
	"testing"

	"gantlet/api"
	"gantlet/parse"
)

// Trees are held against each other as texts, in which every field stands that is not zero.

var exprOps = strings.Fields("None # . Index Deref Addr Minus Comp Not Cast Size PreInc PreDec PostInc PostDec Mul Div Mod Add Sub Shl Shr Lt Le Gt Ge Eq Ne And Xor Or Land Lor Cond Assign Call")

var stmtOps = strings.Fields("None Expr Decl Block If While Do For Switch Case Default Break Continue Return Goto Label Empty")

var kinds = strings.Fields("void I8 U8 I16 U16 I32 U32 I64 U64")

func opName(names []string, op int) string {
	if op < 0 || op >= len(names) {
		return "?" + strconv.Itoa(op)
	}
	return names[op]
}

func showType(t api.Type) string {
	if t == (api.Type{}) {
		return ""
	}
	s := opName(kinds, t.Kind) + strings.Repeat("*", t.Ptr)
	if t.Len != 0 {
		s += "[" + strconv.Itoa(t.Len) + "]"
	}
	return ":" + s
}

// show tells a list's elements, by what tells one of them.
func show[T any](l []T, one func(T) string) string {
	var s []string
	for _, x := range l {
		s = append(s, one(x))
	}
	return strings.Join(s, " ")
}

// listed tells a list in brackets, if it has elements.
func listed[T any](open string, l []T, one func(T) string, end string) string {
	if len(l) == 0 {
		return ""
	}
	return open + show(l, one) + end
}

func at(pos int) string {
	return "@" + strconv.Itoa(pos)
}

func showExpr(e api.Expr) string {
	s := opName(exprOps, e.Op)
	switch {
	case e.Op == api.EName:
		s = ""
	case e.Op == api.EAssign && e.N != 0:
		s += "-" + opName(exprOps, int(e.N))
	case e.Op == api.ENum || e.N != 0:
		s += strconv.FormatInt(e.N, 10)
	}
	if e.Op == api.EName && e.N != 0 {
		s = "?"
	}
	if e.Op == api.ECall {
		s += "-"
	}
	return s + e.Name + showType(e.Type) + at(e.Pos) + listed("(", e.Kids, showExpr, ")")
}

func showStmt(s api.Stmt) string {
	t := opName(stmtOps, s.Op)
	if s.Name != "" {
		t += "-" + s.Name
	}
	if s.Op == api.SCase || s.N != 0 {
		t += strconv.FormatInt(s.N, 10)
	}
	return t + showType(s.Type) + at(s.Pos) + listed("[", s.Expr, showExpr, "]") + listed("{", s.Body, showStmt, "}")
}

func showNumber(n int64) string {
	return strconv.FormatInt(n, 10)
}

func showDecl(d api.Decl) string {
	return d.Name + showType(d.Type) + at(d.Pos) + listed("=", d.Init, showNumber, "")
}

func showFunc(f api.Func) string {
	return f.Name + showType(f.Ret) + at(f.Pos) + "(" + show(f.Params, showDecl) + ")" + listed("?", f.Locals, showDecl, "") + "{" + show(f.Body, showStmt) + "}"
}

func showUnit(u api.Unit) string {
	return strings.TrimSpace(show(u.Globals, showDecl) + " | " + show(u.Funcs, showFunc))
}

// placed tells a unit, copied whole, with each Pos as a rule changes it.
func placed(u api.Unit, rule func(int) int) api.Unit {
	decls := func(l []api.Decl) []api.Decl {
		l = slices.Clone(l)
		for i := range l {
			l[i].Pos, l[i].Init = rule(l[i].Pos), slices.Clone(l[i].Init)
		}
		return l
	}
	u.Globals, u.Funcs = decls(u.Globals), slices.Clone(u.Funcs)
	for i, f := range u.Funcs {
		u.Funcs[i].Pos, u.Funcs[i].Params, u.Funcs[i].Body = rule(f.Pos), decls(f.Params), placedStmts(f.Body, rule)
	}
	return u
}

func placedStmts(l []api.Stmt, rule func(int) int) []api.Stmt {
	l = slices.Clone(l)
	for i, s := range l {
		l[i].Pos, l[i].Expr, l[i].Body = rule(s.Pos), placedExprs(s.Expr, rule), placedStmts(s.Body, rule)
	}
	return l
}

// placedExprs leaves what is left out of a for as it is: it stands nowhere.
func placedExprs(l []api.Expr, rule func(int) int) []api.Expr {
	l = slices.Clone(l)
	for i, e := range l {
		if e.Op != api.ENone {
			l[i].Pos, l[i].Kids = rule(e.Pos), placedExprs(e.Kids, rule)
		}
	}
	return l
}

func nowhere(int) int {
	return 0
}

// showUnplaced tells a unit but for where it stands.
func showUnplaced(u api.Unit) string {
	return showUnit(placed(u, nowhere))
}

// parses holds what Parse tells of s against the tree that is wanted.
func parses(t *testing.T, s, want string) {
	t.Helper()
	u, f := parse.Parse(s)
	if got := showUnit(u); got != want || f != (api.Fault{}) {
		t.Errorf("%.200q:\n%s, %+v; should be\n%s", s, got, f, want)
	}
}

// refuses holds what Parse tells of s against the fault that is wanted, without a unit.
func refuses(t *testing.T, s string, err api.Errno, pos int) {
	t.Helper()
	u, f := parse.Parse(s)
	if f != (api.Fault{Err: int(err), Pos: pos}) || len(u.Globals) != 0 || len(u.Funcs) != 0 {
		t.Errorf("%.200q: %+v, %s; should be %d at %d", s, f, showUnit(u), err, pos)
	}
}

// refusesAt is refuses, with a ` ahead of the place in s; a blank comes in its stead.
func refusesAt(t *testing.T, s string, err api.Errno) {
	t.Helper()
	refuses(t, strings.Replace(s, "`", " ", 1), err, strings.Index(s, "`")+1)
}

// taken holds that Parse tells no fault of s.
func taken(t *testing.T, s string) api.Unit {
	t.Helper()
	u, f := parse.Parse(s)
	if f != (api.Fault{}) {
		t.Errorf("%.200q: %+v", s, f)
	}
	return u
}

const ahead = "int f(){"

// expression tells the one expression of a statement that s is, as if it began at 0.
func expression(t *testing.T, s string) string {
	t.Helper()
	u := placed(taken(t, ahead+s+";}"), func(pos int) int { return pos - len(ahead) })
	if len(u.Funcs) != 1 || len(u.Funcs[0].Body) != 1 || u.Funcs[0].Body[0].Op != api.SExpr || len(u.Funcs[0].Body[0].Expr) != 1 {
		return showUnit(u)
	}
	return showExpr(u.Funcs[0].Body[0].Expr[0])
}

// statements tells the statements that s is, as if it began at 0.
func statements(t *testing.T, s string) string {
	t.Helper()
	u := placed(taken(t, ahead+s+"}"), func(pos int) int { return pos - len(ahead) })
	if len(u.Funcs) != 1 {
		return showUnit(u)
	}
	return show(u.Funcs[0].Body, showStmt)
}

// mix tells numbers below n by a fixed rule.
func mix(seed uint64) func(n int) int {
	return func(n int) int {
		seed ^= seed << 13
		seed ^= seed >> 7
		seed ^= seed << 17
		return int(seed >> 11 % uint64(n))
	}
}
