package checked

import (
	"slices"

	"gantlet/api"
)

// Each of these tells whether two things are the same in all that they have.

func sameUnit(a, b api.Unit) bool {
	return slices.EqualFunc(a.Globals, b.Globals, sameDecl) && slices.EqualFunc(a.Funcs, b.Funcs, sameFunc)
}

func sameDecl(a, b api.Decl) bool {
	return a.Name == b.Name && a.Type == b.Type && a.Pos == b.Pos && slices.Equal(a.Init, b.Init)
}

func sameFunc(a, b api.Func) bool {
	return a.Name == b.Name && a.Ret == b.Ret && a.Pos == b.Pos &&
		slices.EqualFunc(a.Params, b.Params, sameDecl) &&
		slices.EqualFunc(a.Locals, b.Locals, sameDecl) &&
		slices.EqualFunc(a.Body, b.Body, sameStmt)
}

func sameStmt(a, b api.Stmt) bool {
	return a.Op == b.Op && a.Type == b.Type && a.Name == b.Name && a.N == b.N && a.Pos == b.Pos &&
		slices.EqualFunc(a.Expr, b.Expr, sameExpr) && slices.EqualFunc(a.Body, b.Body, sameStmt)
}

func sameExpr(a, b api.Expr) bool {
	return a.Op == b.Op && a.Type == b.Type && a.Name == b.Name && a.N == b.N && a.Pos == b.Pos &&
		slices.EqualFunc(a.Kids, b.Kids, sameExpr)
}
