package check_test

import (
	"math"
	"strings"
	"testing"

	"gantlet/api"
	"gantlet/check"
)

// Units that parse tells of no text are refused as a whole, by ErrForm at 0. Of these the
// chapter says no more than that the call ends, as R1 has it.

// malformed holds that a unit is refused.
func malformed(t *testing.T, u api.Unit) {
	t.Helper()
	v, f := check.Check(u)
	if f != (api.Fault{Err: int(api.ErrForm)}) || v.Globals != nil || v.Funcs != nil {
		t.Errorf("%+v, %.500s of %.500s", f, whole(v), whole(u))
	}
}

func numbers() []int {
	return []int{-1, 0, 1, 2, 3, 4, 5, 8, 9, 36, 64, 65, 99, 1 << 40, math.MaxInt64, math.MinInt64}
}

func names() []string {
	return []string{"", " ", " x", "f\n", "1", "x y", "int", "if", "x;", "x(){}int y", "é", "\x00", "main", "x", strings.Repeat("x", 3000)}
}

// refusedOrTaken holds that whatever is done to a unit, Check ends, and tells one of both.
func refusedOrTaken(t *testing.T, u api.Unit) {
	t.Helper()
	v, f := check.Check(u)
	if f.Err != 0 && (v.Globals != nil || v.Funcs != nil) || f.Err == 0 && f.Pos != 0 {
		t.Errorf("%+v, %.500s of %.500s", f, whole(v), whole(u))
	}
	if f.Err == 0 && bare(v) != bare(u) {
		t.Errorf("%.500s of %.500s", bare(v), bare(u))
	}
}

// TestWrongParts is of R1: units of which one thing is changed, each way.
func TestWrongParts(t *testing.T) {
	for _, s := range samples() {
		u := parsed(t, s)
		try := func() {
			t.Helper()
			refusedOrTaken(t, u)
		}
		for i := range u.Globals {
			spoilDecl(&u.Globals[i], try)
		}
		for i := range u.Funcs {
			f := &u.Funcs[i]
			for j := range f.Params {
				spoilDecl(&f.Params[j], try)
			}
			spoilName(&f.Name, try)
			spoilType(&f.Ret, try)
			spoilStmts(&f.Body, try)
		}
	}
}

// with tells something a value for as long as try runs.
func with[T any](at *T, value T, try func()) {
	kept := *at
	*at = value
	try()
	*at = kept
}

func spoilName(at *string, try func()) {
	for _, name := range names() {
		with(at, name, try)
	}
}

func spoilType(at *api.Type, try func()) {
	for _, n := range numbers() {
		with(&at.Kind, n, try)
		with(&at.Ptr, n, try)
		with(&at.Len, n, try)
	}
}

func spoilDecl(d *api.Decl, try func()) {
	spoilName(&d.Name, try)
	spoilType(&d.Type, try)
	for _, l := range [][]int64{nil, {1}, {1, 2}, {math.MinInt64}, {0, 0, 0, 0}, make([]int64, 65)} {
		with(&d.Init, l, try)
	}
}

func spoilStmts(l *[]api.Stmt, try func()) {
	with(l, nil, try)
	with(l, append([]api.Stmt{{}}, *l...), try)
	with(l, append([]api.Stmt{{Op: api.SEmpty}}, *l...), try)
	for i := range *l {
		s := &(*l)[i]
		for _, n := range numbers() {
			with(&s.Op, n, try)
			with(&s.N, int64(n), try)
		}
		spoilName(&s.Name, try)
		spoilType(&s.Type, try)
		spoilExprList(&s.Expr, try)
		spoilStmts(&s.Body, try)
	}
}

func spoilExprList(l *[]api.Expr, try func()) {
	with(l, nil, try)
	with(l, append([]api.Expr{{}}, *l...), try)
	with(l, append([]api.Expr{{Op: api.ENum, N: 1}}, *l...), try)
	for i := range *l {
		e := &(*l)[i]
		for _, n := range numbers() {
			with(&e.Op, n, try)
			with(&e.N, int64(n), try)
		}
		spoilName(&e.Name, try)
		if e.Op == api.ECast || e.Op == api.ESize {
			spoilType(&e.Type, try)
		}
		spoilExprList(&e.Kids, try)
	}
}

// TestMalformed is of R1: units that no text has.
func TestMalformed(t *testing.T) {
	i := api.Type{Kind: api.TI32}
	main := func(l ...api.Stmt) api.Unit {
		return api.Unit{Funcs: []api.Func{{Name: "main", Ret: i, Body: l}}}
	}
	of := func(e api.Expr) api.Unit { return main(api.Stmt{Op: api.SExpr, Expr: []api.Expr{e}}) }
	one := api.Expr{Op: api.ENum, N: 1}
	for op := -2; op < 40; op++ {
		if op != api.SEmpty && op != api.SBlock && op != api.SReturn && op != api.SBreak && op != api.SContinue && op != api.SCase && op != api.SDefault {
			malformed(t, main(api.Stmt{Op: op}))
		}
		if op != api.ENum && op != api.ESize {
			malformed(t, of(api.Expr{Op: op}))
		}
		malformed(t, of(api.Expr{Op: op, Kids: make([]api.Expr, 3)}))
		malformed(t, of(api.Expr{Op: op, Kids: []api.Expr{one, one, one, one, one}}))
	}
	malformed(t, of(api.Expr{Op: api.ENum, N: -1}))
	malformed(t, of(api.Expr{Op: api.ENum, N: math.MinInt64}))
	malformed(t, of(api.Expr{Op: api.ENum, Name: "x"}))
	malformed(t, of(api.Expr{Op: api.ECast, Type: api.Type{Kind: api.TI32, Len: 2}, Kids: []api.Expr{one}}))
	malformed(t, of(api.Expr{Op: api.ESize, Type: api.Type{Kind: api.TI32, Ptr: 4}}))
	malformed(t, of(api.Expr{Op: api.ESize, Type: api.Type{Kind: 9}}))
	malformed(t, main(api.Stmt{Op: api.SDecl, Name: "x", Type: api.Type{Kind: api.TI32, Len: 2}, Expr: []api.Expr{one}}))
	malformed(t, main(api.Stmt{Op: api.SFor, Expr: []api.Expr{one, one}, Body: []api.Stmt{{Op: api.SEmpty}}}))
	malformed(t, main(api.Stmt{Op: api.SEmpty, N: 1}))
	malformed(t, api.Unit{Funcs: []api.Func{{Name: "main", Ret: i, Params: []api.Decl{{Name: "x", Type: api.Type{Kind: api.TI32, Len: 1}}}}}})
	malformed(t, api.Unit{Globals: []api.Decl{{Name: "x", Type: i, Init: []int64{1, 2}}}, Funcs: main().Funcs})
	many := api.Unit{Funcs: main().Funcs}
	for n := range api.MaxGlobals + 1 {
		many.Globals = append(many.Globals, api.Decl{Name: string(rune('a' + n)), Type: i})
	}
	malformed(t, many)
}

// TestHuge is of R1: units that are very deep, or very large.
func TestHuge(t *testing.T) {
	e, s := api.Expr{Op: api.ENum}, api.Stmt{Op: api.SEmpty}
	for range 60000 {
		e = api.Expr{Op: api.EMinus, Kids: []api.Expr{e}}
		s = api.Stmt{Op: api.SBlock, Body: []api.Stmt{s}}
	}
	i := api.Type{Kind: api.TI32}
	for _, l := range [][]api.Stmt{{s}, {{Op: api.SExpr, Expr: []api.Expr{e}}}, make([]api.Stmt, 1000000), {{Op: api.SExpr, Expr: []api.Expr{{Op: api.ECall, Name: "main", Kids: make([]api.Expr, 1000000)}}}}} {
		_, f := check.Check(api.Unit{Funcs: []api.Func{{Name: "main", Ret: i, Body: l}}})
		if f != (api.Fault{Err: int(api.ErrForm)}) {
			t.Errorf("%+v", f)
		}
	}
	malformed(t, api.Unit{Funcs: make([]api.Func, 100000)})
	malformed(t, api.Unit{Globals: make([]api.Decl, 100000)})
}
