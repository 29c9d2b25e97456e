package check

import (
	"slices"

	"gantlet/api"
	"gantlet/parse"
)

// anew tells a unit once more, in new memory and without what Check fills in; false, if
// parse tells no such unit. It is what parse makes of the unit's text: so all that holds
// of what parse tells holds of it, whatever came in.
func anew(u api.Unit) (api.Unit, bool) {
	s, err := parse.Text(u)
	if err != api.OK {
		return api.Unit{}, false
	}
	own, f := parse.Parse(s)
	if f.Err != int(api.OK) || !sameUnit(&own, u) {
		return api.Unit{}, false
	}
	return own, true
}

// Each of these tells whether two things are the same but for what Check fills in, and for
// Pos, which it takes over from the second one.

func sameUnit(to *api.Unit, from api.Unit) bool {
	return each(to.Globals, from.Globals, sameDecl) && each(to.Funcs, from.Funcs, sameFunc)
}

func sameDecl(to *api.Decl, from api.Decl) bool {
	to.Pos = from.Pos
	return to.Name == from.Name && to.Type == from.Type && slices.Equal(to.Init, from.Init)
}

func sameFunc(to *api.Func, from api.Func) bool {
	to.Pos = from.Pos
	return to.Name == from.Name && to.Ret == from.Ret &&
		each(to.Params, from.Params, sameDecl) && each(to.Body, from.Body, sameStmt)
}

func sameStmt(to *api.Stmt, from api.Stmt) bool {
	to.Pos = from.Pos
	filled := to.Op == api.SDecl
	return to.Op == from.Op && to.Name == from.Name && to.Type == from.Type && (filled || to.N == from.N) &&
		each(to.Expr, from.Expr, sameExpr) && each(to.Body, from.Body, sameStmt)
}

func sameExpr(to *api.Expr, from api.Expr) bool {
	to.Pos = from.Pos
	typed := to.Op == api.ECast || to.Op == api.ESize
	filled := to.Op == api.EName || to.Op == api.ECall || to.Op == api.ESize
	return to.Op == from.Op && to.Name == from.Name && (!typed || to.Type == from.Type) && (filled || to.N == from.N) &&
		each(to.Kids, from.Kids, sameExpr)
}

// each tells whether the elements of two lists are the same, pair by pair.
func each[T any](to, from []T, same func(to *T, from T) bool) bool {
	if len(to) != len(from) {
		return false
	}
	for i := range to {
		if !same(&to[i], from[i]) {
			return false
		}
	}
	return true
}
