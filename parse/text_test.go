package parse_test

import (
	"math"
	"strings"
	"testing"

	"gantlet/api"
	"gantlet/parse"
)

// again holds that a text's unit has a text, which is no longer, and the unit of that one
// is the same, but for Pos, whatever those are.
func again(t *testing.T, s string) {
	t.Helper()
	u := taken(t, s)
	text, err := parse.Text(u)
	v, f := parse.Parse(text)
	if err != api.OK || f != (api.Fault{}) || showUnplaced(u) != showUnplaced(v) || len(text) > len(s) {
		t.Errorf("%.200q: %.200q, %d, %+v:\n%s; should be\n%s", s, text, err, f, showUnplaced(v), showUnplaced(u))
	}
	moved := placed(u, func(pos int) int { return math.MinInt + 7*pos })
	if other, err := parse.Text(moved); other != text || err != api.OK {
		t.Errorf("%.200q: %.200q, %d with other places; should be %.200q", s, other, err, text)
	}
}

// whole tells whether a text has no fault.
func whole(s string) bool {
	_, f := parse.Parse(s)
	return f.Err == 0
}

// TestAgain is P3.2: each kind of item, statement and expression.
func TestAgain(t *testing.T) {
	for _, c := range itemCases() {
		again(t, c[0])
	}
	for _, c := range statementCases() {
		again(t, ahead+c[0]+"}")
	}
	for _, c := range expressionCases() {
		again(t, ahead+c[0]+";}")
		again(t, ahead+"return "+c[0]+";}")
		again(t, ahead+"int x="+c[0]+";}")
	}
	for _, s := range samples() {
		again(t, s)
	}
}

// TestAgainOps is P3.2: each two ops, one a part of the other one, on each side, with
// brackets and without.
func TestAgainOps(t *testing.T) {
	forms := []string{"-$", "~$", "!$", "*$", "& $", "++$", "--$", "(int)$", "$[a]", "a[$]", "f($)", "f(a,$)", "$++", "$--", "$?a:b", "a?$:b", "a?b:$", "sizeof(int)", "$=a", "a=$", "$-=a", "a-=$"}
	for _, b := range binaries() {
		forms = append(forms, "$"+b.sign+"a", "a"+b.sign+"$")
	}
	for _, outer := range forms {
		for _, inner := range forms {
			in := strings.Replace(inner, "$", "x", 1)
			again(t, ahead+strings.Replace(outer, "$", "("+in+")", 1)+";}")
			bare := ahead + strings.Replace(outer, "$", " "+in+" ", 1) + ";}"
			if whole(bare) {
				again(t, bare)
			}
		}
	}
}

// TestAgainDeep is P3.2: what is as deep as may be stays so.
func TestAgainDeep(t *testing.T) {
	a, b := statementAt(2)
	for _, w := range expressionWays() {
		more, less := nested(w, (api.MaxDeep-3)/w.levels)
		again(t, a+more+"x"+less+";"+b)
		again(t, a+"return "+more+"x"+less+";"+b)
	}
	for _, w := range statementWays() {
		more, less := nested(w, (api.MaxDeep-2)/w.levels)
		again(t, a+more+";"+less+b)
	}
	for _, s := range []string{"(%)", "(%)+a", "a*(%)", "(%)=a", "a=(%)", "(%)[a]", "(%)?(a):(b)", "(a)+((%))", "a-(%)", "-(%)", "a?(%):b", "a?b:(%)"} {
		e := "x+y"
		for whole(a + e + ";" + b) {
			again(t, a+e+";"+b)
			e = strings.Replace(s, "%", e, 1)
		}
	}
}

// TestAgainLong is P3.2: what is as long as may be, of one token each byte, and others.
func TestAgainLong(t *testing.T) {
	fill := func(front, unit, back string) string {
		n := (api.MaxText - len(front) - len(back)) / len(unit)
		return front + strings.Repeat(unit, n) + back
	}
	for _, s := range []string{
		fill("int f(){", ";", "}"), fill("int f(){x", "+x", ";}"), fill("int f(){x", "--", ";}"), fill("int f(){x", "[0]", ";}"), fill("int f(){", "a:", "}"), fill("int f(){", "{}", "}"),
		fill("int f(){", "if(a)b;else c;", "}"), fill("int f(){x", "- -x", ";}"), fill("int f(){x", "&&&x", ";}"), fill("int f(){x", "+++x", ";}"), fill("int f(){", "int x;", "}"), fill("int f(){", "unsigned long***x;", "}"),
		fill("int f(){", "return(x);", "}"), fill("int ", "a", ";"), fill("int f(){x", "<<x", ";}"), fill("int f(){x", "*(x)", ";}"), fill("int f(){", "case-0:", "}"),
	} {
		again(t, s)
	}
}

// TestAgainShort is P3.2: of what is parsed from 200 bytes or less ErrLimit is never told.
func TestAgainShort(t *testing.T) {
	some(1500, func(_ api.Unit, first, _ string, _ [][]int) {
		if len(first) <= 200 {
			again(t, first)
		}
	})
}

// TestTooLong is of P3.2: a text of MaxText bytes is told, and of one byte more ErrLimit.
func TestTooLong(t *testing.T) {
	name := strings.Repeat("x", api.MaxText-len("int ;"))
	global := func(name string) api.Unit {
		return api.Unit{Globals: []api.Decl{{Name: name, Type: api.Type{Kind: api.TI32}}}}
	}
	if text, err := parse.Text(global(name)); text != "int "+name+";" || err != api.OK {
		t.Errorf("%d: %q", err, text)
	}
	for _, more := range []string{"x", "xx", "xxxxxxxxx"} {
		if text, err := parse.Text(global(name + more)); text != "" || err != api.ErrLimit {
			t.Errorf("%d: %q", err, text)
		}
	}
	e := api.Expr{Op: api.EName, Name: "x"}
	for range api.MaxText {
		e = api.Expr{Op: api.EMinus, Kids: []api.Expr{e}}
	}
	u := api.Unit{Funcs: []api.Func{{Name: "f", Body: []api.Stmt{{Op: api.SExpr, Expr: []api.Expr{e}}}}}}
	if text, err := parse.Text(u); text != "" || err != api.ErrLimit {
		t.Errorf("%d: %q", err, text)
	}
}

// TestNoForm is of R1 and R4: Text ends without a panic whatever a unit is made of, and
// tells nothing beside an error.
func TestNoForm(t *testing.T) {
	units := []api.Unit{
		{Globals: []api.Decl{{}}}, {Funcs: []api.Func{{}}}, {Globals: []api.Decl{{Type: api.Type{Kind: 9}}}}, {Globals: []api.Decl{{Type: api.Type{Kind: -1}}}},
		{Globals: []api.Decl{{Name: "x", Type: api.Type{Kind: api.TI8, Ptr: math.MaxInt}}}}, {Globals: []api.Decl{{Name: "x", Type: api.Type{Kind: math.MinInt, Ptr: math.MinInt, Len: math.MinInt}}}},
		{Globals: []api.Decl{{Name: "x", Init: []int64{math.MinInt64, 1}}}}, {Globals: []api.Decl{{Name: strings.Repeat("x", api.MaxText+1)}}}, {Globals: []api.Decl{{Name: "@ \x00"}, {Name: ""}}},
		{Globals: make([]api.Decl, 100000)}, {Funcs: make([]api.Func, 100000)}, {Globals: []api.Decl{{Type: api.Type{Len: 5}, Init: make([]int64, 100000)}}}, {Funcs: []api.Func{{Params: make([]api.Decl, 100000)}}},
	}
	body := func(s ...api.Stmt) { units = append(units, api.Unit{Funcs: []api.Func{{Name: "f", Body: s}}}) }
	for op := -1; op < 20; op++ {
		body(api.Stmt{Op: op})
		body(api.Stmt{Op: op, Body: []api.Stmt{{Op: api.SEmpty}}})
		body(api.Stmt{Op: op, Expr: []api.Expr{{Op: api.ENum}}})
	}
	for op := -1; op < 40; op++ {
		for n := range 4 {
			body(api.Stmt{Op: api.SExpr, Expr: []api.Expr{{Op: op, N: int64(n - 2), Kids: make([]api.Expr, n)}}})
			body(api.Stmt{Op: api.SExpr, Expr: []api.Expr{{Op: op, N: math.MaxInt64, Kids: []api.Expr{{Op: api.ENum, N: math.MinInt64}}}}})
		}
	}
	e := api.Expr{Op: api.EName, Name: "a"}
	s := api.Stmt{Op: api.SEmpty}
	for range 60000 {
		e = api.Expr{Op: api.EAdd, Kids: []api.Expr{e, e}}
		s = api.Stmt{Op: api.SBlock, Body: []api.Stmt{s, s}}
	}
	body(api.Stmt{Op: api.SExpr, Expr: []api.Expr{e}})
	body(s)
	round := make([]api.Expr, 2)
	round[0] = api.Expr{Op: api.EIndex, Kids: round}
	body(api.Stmt{Op: api.SExpr, Expr: round})
	for i, u := range units {
		if text, err := parse.Text(u); err != api.OK && text != "" {
			t.Errorf("%d: %q beside %d", i, text, err)
		}
	}
}
