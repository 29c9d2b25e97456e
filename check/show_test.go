package check_test

import (
	"slices"
	"strconv"
	"strings"
	"testing"

	"gantlet/api"
	"gantlet/check"
	"gantlet/parse"
)

// Units are held against each other as texts, in which every field stands.

var exprOps = strings.Fields("None Num Name Index Deref Addr Minus Comp Not Cast Size PreInc PreDec PostInc PostDec Mul Div Mod Add Sub Shl Shr Lt Le Gt Ge Eq Ne And Xor Or Land Lor Cond Assign Call")

var stmtOps = strings.Fields("None Expr Decl Block If While Do For Switch Case Default Break Continue Return Goto Label Empty")

var kinds = strings.Fields("void char uchar short ushort int uint long ulong")

// called tells what a number is called, or the number, if it is none of those.
func called(names []string, n int) string {
	if n < 0 || n >= len(names) {
		return "?" + strconv.Itoa(n)
	}
	return names[n]
}

func showType(t api.Type) string {
	s := called(kinds, t.Kind) + strings.Repeat("*", max(0, t.Ptr))
	if t.Ptr < 0 {
		s += "?" + strconv.Itoa(t.Ptr)
	}
	if t.Len != 0 {
		s += "[" + strconv.Itoa(t.Len) + "]"
	}
	return s
}

// shower tells how to show a unit: with Pos, and with what a check fills in, or without.
type shower struct {
	pos, filled bool
}

// show tells a list's elements, by what tells one of them.
func show[T any](l []T, one func(T) string) string {
	var s []string
	for _, x := range l {
		s = append(s, one(x))
	}
	return strings.Join(s, " ")
}

func (w shower) at(pos int) string {
	if !w.pos {
		return ""
	}
	return "@" + strconv.Itoa(pos)
}

// expr tells Op, Name, N, Type, Pos and the kids. What a check fills in is N of those that
// have a Name or a size, and Type but of casts and sizes.
func (w shower) expr(e api.Expr) string {
	s := called(exprOps, e.Op)
	if e.Op == api.EName {
		s = ""
	}
	s += e.Name
	sized := e.Op == api.ESize || e.Op == api.EName || e.Op == api.ECall
	if e.Op == api.EAssign && e.N != 0 {
		s += "-" + called(exprOps, int(e.N))
	} else if e.Op == api.ENum || sized && w.filled || !sized && e.N != 0 {
		s += "#" + strconv.FormatInt(e.N, 10)
	}
	if w.filled || e.Op == api.ECast || e.Op == api.ESize {
		s += ":" + showType(e.Type)
	}
	if s += w.at(e.Pos); len(e.Kids) > 0 {
		s += "(" + show(e.Kids, w.expr) + ")"
	}
	return s
}

func (w shower) stmt(s api.Stmt) string {
	x := called(stmtOps, s.Op)
	if s.Name != "" {
		x += " " + s.Name
	}
	if s.Op == api.SDecl && w.filled || s.Op != api.SDecl && (s.N != 0 || s.Op == api.SCase) {
		x += "#" + strconv.FormatInt(s.N, 10)
	}
	if s.Op == api.SDecl || s.Type != (api.Type{}) {
		x += ":" + showType(s.Type)
	}
	if x += w.at(s.Pos); len(s.Expr) > 0 {
		x += "[" + show(s.Expr, w.expr) + "]"
	}
	if len(s.Body) > 0 {
		x += "{" + show(s.Body, w.stmt) + "}"
	}
	return x
}

func (w shower) decl(d api.Decl) string {
	s := d.Name + ":" + showType(d.Type) + w.at(d.Pos)
	for _, n := range d.Init {
		s += "=" + strconv.FormatInt(n, 10)
	}
	return s
}

func (w shower) function(f api.Func) string {
	s := f.Name + ":" + showType(f.Ret) + w.at(f.Pos) + "(" + show(f.Params, w.decl) + ")"
	if w.filled {
		s += "<" + show(f.Locals, w.decl) + ">"
	}
	return s + "{" + show(f.Body, w.stmt) + "}"
}

func (w shower) unit(u api.Unit) string {
	return show(u.Globals, w.decl) + " | " + show(u.Funcs, w.function)
}

// whole tells all of a unit, bare what no check fills in, filled all but Pos.
func whole(u api.Unit) string  { return shower{true, true}.unit(u) }
func bare(u api.Unit) string   { return shower{true, false}.unit(u) }
func filled(u api.Unit) string { return shower{false, true}.unit(u) }

// placed tells a unit, copied whole, with each Pos as a rule changes it.
func placed(u api.Unit, rule func(int) int) api.Unit {
	u.Globals, u.Funcs = placedDecls(u.Globals, rule), slices.Clone(u.Funcs)
	for i, f := range u.Funcs {
		f.Pos, f.Body = rule(f.Pos), placedStmts(f.Body, rule)
		f.Params, f.Locals = placedDecls(f.Params, rule), placedDecls(f.Locals, rule)
		u.Funcs[i] = f
	}
	return u
}

func placedDecls(l []api.Decl, rule func(int) int) []api.Decl {
	l = slices.Clone(l)
	for i := range l {
		l[i].Pos, l[i].Init = rule(l[i].Pos), slices.Clone(l[i].Init)
	}
	return l
}

func placedStmts(l []api.Stmt, rule func(int) int) []api.Stmt {
	l = slices.Clone(l)
	for i, s := range l {
		l[i].Pos, l[i].Expr, l[i].Body = rule(s.Pos), placedExprs(s.Expr, rule), placedStmts(s.Body, rule)
	}
	return l
}

func placedExprs(l []api.Expr, rule func(int) int) []api.Expr {
	l = slices.Clone(l)
	for i, e := range l {
		l[i].Pos, l[i].Kids = rule(e.Pos), placedExprs(e.Kids, rule)
	}
	return l
}

// parsed tells the unit that s is.
func parsed(t *testing.T, s string) api.Unit {
	t.Helper()
	u, f := parse.Parse(s)
	if f != (api.Fault{}) {
		t.Fatalf("%.300q does not parse: %+v", s, f)
	}
	return u
}

// taken holds that Check tells no fault of s.
func taken(t *testing.T, s string) api.Unit {
	t.Helper()
	u, f := check.Check(parsed(t, s))
	if f != (api.Fault{}) {
		t.Errorf("%.300q: %+v", s, f)
	}
	return u
}

// fills holds what Check tells of s against what is wanted, but for Pos.
func fills(t *testing.T, s, want string) {
	t.Helper()
	if got := filled(taken(t, s)); got != want {
		t.Errorf("%.300q:\n%s; should be\n%s", s, got, want)
	}
}

// refusesAt holds what Check tells of s against the fault that is wanted, without a unit. A `
// stands ahead of the place in s; a blank comes in its stead.
func refusesAt(t *testing.T, s string, err api.Errno) {
	t.Helper()
	refuses(t, strings.Replace(s, "`", " ", 1), err, strings.Index(s, "`")+1)
}

func refuses(t *testing.T, s string, err api.Errno, pos int) {
	t.Helper()
	u, f := check.Check(parsed(t, s))
	if f != (api.Fault{Err: int(err), Pos: pos}) || len(u.Globals) != 0 || len(u.Funcs) != 0 {
		t.Errorf("%.300q: %+v, %s; should be %d at %d", s, f, whole(u), err, pos)
	}
}

// inMain tells a program of which statements are main, behind other items.
func inMain(items, stmts string) string {
	return items + "int main(){" + stmts + "}"
}

// mix tells numbers below n by a fixed rule.
func mix(seed uint64) func(n int) int {
	return func(n int) int {
		seed ^= seed << 13
		seed ^= seed >> 7
		seed ^= seed << 17
		return int(seed >> 11 % uint64(n))
	}
}
