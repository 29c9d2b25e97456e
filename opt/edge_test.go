package opt_test

import (
	"fmt"
	"testing"

	"gantlet/api"
)

// TestEnds is of P10.1: programs that end by their first step, by a return of Main, by an exit deep in
// calls.
func TestEnds(t *testing.T) {
	ends(t, simple(ret("con(1)", exit("con(5)"))), "exit 5 []")
	ends(t, simple(ret("con(-1)")), "exit -1 []")
	ends(t, simple(ret("add(tmp(0), con(1))", get(0))), "exit 8 []", 7)
	down := fn(1, nil, branch("tmp(0)", 1, 2), ret("tmp(1)", put("tmp(0)"), call(1, 1, "sub(tmp(0), con(1))")), ret("con(3)", exit("con(9)")))
	ends(t, prog(nil, fn(0, nil, ret("con(1)", call(0, 1, "con(6)"), put("tmp(0)"))), down), "exit 9 [6 5 4 3 2 1]")
	down.Blocks[2] = ret("con(3)")
	ends(t, prog(nil, fn(0, nil, ret("con(1)", call(0, 1, "con(3)"), put("tmp(0)"))), down), "exit 1 [3 2 1 3]")
}

// TestSizes is of P10.1: programs with no objects, and with the most of each, of all sizes.
func TestSizes(t *testing.T) {
	var globals, locals []api.Obj
	var steps []api.Step
	for i := range api.MaxLocals {
		size := 1 << (i % 4)
		o := obj(size, api.MaxLen, 3, -4)
		load := []string{"load8", "load16", "load32", "load64"}[i%4]
		if i < api.MaxGlobals {
			globals = append(globals, o)
			steps = append(steps, put(fmt.Sprint(load, "(add(glo(", i, "), con(", size, ")))")), store(size, fmt.Sprint("add(glo(", i, "), con(", 63*size, "))"), "con(77)"))
		}
		locals = append(locals, o)
		steps = append(steps, put(fmt.Sprint(load, "(add(loc(", i, "), con(", size, ")))")), store(size, fmt.Sprint("add(loc(", i, "), tmp(0))"), "con(5)"))
	}
	p := prog(globals, fn(0, locals, ret("load8(loc(0))", steps...)))
	q := better(t, p)
	if len(q.Funcs[0].Locals) != api.MaxLocals {
		t.Errorf("%d locals", len(q.Funcs[0].Locals))
	}
}

// TestOtherEnds is of P10.1: of programs that end otherwise comes what may be.
func TestOtherEnds(t *testing.T) {
	globals := []api.Obj{obj(4, 2)}
	for _, c := range []struct {
		want string
		p    api.Prog
	}{
		{"stuck 0 []", prog(globals, fn(0, nil, jump(0, put("con(1)"), exit("glo(0)"))))},
		{"stuck 0 []", prog(globals, fn(0, nil, ret("load64(glo(0))", put("con(1)"))))},
		{"stuck 0 []", prog(globals, fn(0, nil, branch("load32(con(0))", 0, 1), ret("con(1)")))},
		{"stuck 0 []", prog(globals, fn(0, nil, ret("con(1)", store(4, "add(glo(0), con(9))", "con(1)"))))},
		{"stuck 0 []", simple(ret("con(1)", set(0, "load8(tmp(1))")))},
		{"over 0 [1]", prog(nil, fn(0, nil, ret("con(1)", put("con(1)"), call(-1, 1))), fn(0, nil, ret("con(2)", call(-1, 1))))},
		{"over 0 []", prog(nil, fn(0, nil, ret("con(1)", call(0, 0), put("tmp(0)"))))},
		{"fuel 0 []", simple(jump(0))},
		{"fuel 0 []", simple(jump(1, get(0)), jump(0, set(1, "add(tmp(1), con(1))")))},
		{"fuel 0 []", prog(nil, fn(0, nil, ret("con(1)", call(-1, 1))), fn(0, nil, branch("con(1)", 0, 1), ret("con(2)")))},
	} {
		ends(t, c.p, c.want)
	}
}

// TestStuckElsewhere is of P10.1: a tree that is stuck in some runs does not come to be told in others.
func TestStuckElsewhere(t *testing.T) {
	globals := []api.Obj{obj(4, 2, 5, 6), obj(8, 1)}
	for _, bad := range []string{"load32(con(0))", "load32(tmp(0))", "load64(glo(0))", "load32(add(glo(0), con(1)))", "add(glo(0), con(9))", "sub(glo(0), glo(1))", "mul(glo(0), con(2))", "lt(glo(0), con(1))", "ext8(glo(0))", "load32(add(glo(0), shl(tmp(0), con(2))))", "eq(glo(0), tmp(0))"} {
		for _, in := range []int64{0, 1, 2, 3} {
			way := func(l ...api.Block) {
				t.Helper()
				p := prog(globals, fn(0, nil, append([]api.Block{branch("eq(tmp(0), con(2))", 1, 2, get(0), put("con(1)"))}, l...)...), fn(1, nil, ret("tmp(0)")))
				better(t, p, []int64{in})
			}
			last := ret("tmp(1)", put("tmp(2)"))
			way(jump(3, set(1, bad), put("con(8)")), jump(3, put("con(9)")), last)
			way(jump(3, set(1, bad), store(4, "glo(0)", "con(8)")), jump(3, set(1, "con(4)")), last)
			way(jump(3, put(bad)), jump(3), last)
			way(ret(bad), ret("con(7)"))
			way(ret("con(7)", exit("con(6)"), put(bad)), ret(bad, exit("con(5)")))
			way(branch(bad, 2, 3), branch("tmp(0)", 3, 3), last)
			way(ret("con(7)", call(1, 1, bad)), ret("con(7)"))
			way(ret("con(6)", put("con(4)"), exit("con(3)"), set(1, bad), put("tmp(1)")), last)
			way(ret("con(6)", set(1, bad), put("con(4)")), last)
		}
	}
}

// TestStores is of P10.1: what may be stored between two loads of a place.
func TestStores(t *testing.T) {
	globals := []api.Obj{obj(4, 4, 5, 6, 7, 8), obj(2, 4, 5, 6), obj(4, 4), obj(8, 2)}
	locals := []api.Obj{obj(4, 4, 9), obj(8, 2)}
	writer := fn(1, []api.Obj{obj(4, 1)}, ret("con(0)", store(4, "tmp(0)", "con(70)")))
	own := fn(1, []api.Obj{obj(4, 1)}, ret("load32(loc(0))", store(4, "loc(0)", "con(71)")))
	for _, c := range []struct {
		step api.Step
		out  string
	}{
		{store(4, "glo(0)", "con(60)"), "[5 60]"}, {store(4, "add(glo(0), con(4))", "con(60)"), "[5 5]"}, {store(4, "glo(2)", "con(60)"), "[5 5]"}, {store(2, "glo(1)", "con(60)"), "[5 5]"},
		{store(4, "add(glo(0), shl(tmp(0), con(2)))", "con(60)"), "[5 60]"}, {store(4, "add(glo(0), add(shl(tmp(0), con(2)), con(4)))", "con(60)"), "[5 5]"}, {store(4, "tmp(1)", "con(60)"), "[5 60]"}, {store(4, "tmp(2)", "con(60)"), "[5 5]"},
		{store(4, "add(tmp(1), con(4))", "con(60)"), "[5 5]"}, {store(4, "sub(add(tmp(1), con(8)), con(8))", "con(60)"), "[5 60]"}, {store(4, "loc(0)", "con(60)"), "[5 5]"}, {store(4, "load64(glo(3))", "con(60)"), "[5 60]"}, {store(4, "load64(loc(1))", "con(60)"), "[5 5]"},
		{call(-1, 1, "tmp(1)"), "[5 70]"}, {call(-1, 1, "glo(0)"), "[5 70]"}, {call(-1, 1, "loc(0)"), "[5 5]"}, {call(3, 2, "glo(0)"), "[5 5]"}, {store(4, "glo(0)", "add(load32(glo(0)), con(4294967296))"), "[5 5]"}, {put("con(1)"), "[5 1 5]"}, {get(4), "[5 5]"},
	} {
		steps := []api.Step{get(0), set(1, "add(glo(0), shl(tmp(0), con(2)))"), set(2, "add(loc(0), shl(tmp(0), con(2)))"), store(8, "glo(3)", "tmp(1)"), store(8, "loc(1)", "tmp(2)")}
		load := put("load32(glo(0))")
		p := prog(globals, fn(0, locals, ret("load32(loc(0))", append(steps, load, c.step, load)...)), writer, own)
		code := 9
		switch c.step.Op {
		case api.GStore:
			to := treeText(c.step.Args[0])
			if to == "loc(0)" || to == "tmp(2)" || to == "load64(loc(1))" {
				code = 60
			}
		case api.GCall:
			if treeText(c.step.Args[0]) == "loc(0)" {
				code = 70
			}
		}
		ends(t, p, fmt.Sprint("exit ", code, " ", c.out))
		p = prog(globals, fn(0, locals, ret("add(tmp(5), load32(glo(0)))", append(steps, set(5, "load32(glo(0))"), c.step, put("load32(glo(0))"))...)), writer, own)
		better(t, p)
	}
}

// TestSizesOfLoads is of P10.1: what is loaded where something was stored, of each size, with signs and
// without, in globals, in locals, and in locals whose places go elsewhere.
func TestSizesOfLoads(t *testing.T) {
	loads := map[int][]string{1: {"load8", "loadu8"}, 2: {"load16", "loadu16"}, 4: {"load32", "loadu32"}, 8: {"load64"}}
	for i, size := range []int{1, 2, 4, 8} {
		l := []api.Obj{obj(1, 2), obj(2, 2), obj(4, 2), obj(8, 2), obj(8, 1)}
		for _, v := range []string{"con(-1)", "con(200)", "con(40000)", "con(3000000000)", "tmp(0)", "ext8(tmp(0))", "zext16(tmp(0))", "load32(glo(2))"} {
			for _, at := range []string{fmt.Sprint("glo(", i, ")"), fmt.Sprint("loc(", i, ")"), fmt.Sprint("add(loc(", i, "), con(", size, "))")} {
				for _, escapes := range []bool{false, true} {
					steps := []api.Step{get(0), store(size, at, v)}
					if escapes {
						steps = append(steps, store(8, "glo(4)", at))
					}
					for _, load := range append(loads[size], loads[size]...) {
						steps = append(steps, put(load+"("+at+")"))
					}
					more := append(steps, set(1, loads[size][0]+"("+at+")"), store(size, at, "tmp(1)"), put("tmp(1)"), put(loads[size][0]+"("+at+")"), store(size, at, "con(3)"))
					p := prog(l, fn(0, l, ret(loads[size][0]+"("+at+")", more...)))
					better(t, p, []int64{-3}, []int64{77777777777}, []int64{128}, []int64{1<<63 - 1})
				}
			}
		}
	}
}

// TestOwnObjects is of P10.1: the local of one call and that of the next one, or of an outer one, are
// two objects.
func TestOwnObjects(t *testing.T) {
	count := fn(1, []api.Obj{obj(4, 2, 3)}, branch("tmp(0)", 1, 2, put("load32(loc(0))"), store(4, "loc(0)", "add(load32(loc(0)), tmp(0))"), put("load32(loc(0))")),
		ret("add(load32(loc(0)), tmp(1))", call(1, 1, "sub(tmp(0), con(1))"), put("load32(loc(0))")), ret("load32(loc(0))"))
	p := prog(nil, fn(0, nil, ret("tmp(1)", call(0, 1, "con(3)"), call(1, 1, "con(1)"), put("tmp(0)"))), count)
	ends(t, p, "exit 7 [3 6 3 5 3 4 3 3 4 5 6 3 4 3 3 4 18]")
	// an outer call's local by its place, and the same local of the inner one
	inner := fn(2, []api.Obj{obj(4, 1)}, branch("tmp(0)", 1, 2), ret("add(load32(loc(0)), mul(load32(tmp(1)), con(10)))", store(4, "loc(0)", "con(5)"), store(4, "tmp(1)", "con(6)")), ret("add(tmp(2), mul(load32(loc(0)), con(100)))", store(4, "loc(0)", "con(4)"), call(2, 1, "con(1)", "loc(0)")))
	p = prog(nil, fn(0, nil, ret("tmp(0)", call(0, 1, "con(0)", "con(0)"))), inner)
	ends(t, p, "exit 665 []")
}

// TestPlaces is of P10.1: places in temporaries, in memory and as arguments; places compared; places of
// objects that are no more.
func TestPlaces(t *testing.T) {
	globals := []api.Obj{obj(4, 3, 5, 6, 7), obj(8, 2), obj(4, 3)}
	dead := fn(0, []api.Obj{obj(4, 1)}, ret("loc(0)"))
	pick := fn(3, nil, branch("tmp(0)", 1, 2), ret("tmp(1)"), ret("tmp(2)"))
	with := func(b ...api.Block) api.Prog {
		return prog(globals, fn(0, []api.Obj{obj(4, 2, 1, 2), obj(8, 1)}, b...), dead, pick)
	}
	ends(t, with(ret("con(0)", call(0, 1), put("eq(tmp(0), con(0))"), put("ne(tmp(0), con(0))"))), "exit 0 [0 1]")
	ends(t, with(branch("tmp(0)", 1, 2, call(0, 1)), ret("con(3)"), ret("con(4)")), "exit 3 []")
	ends(t, with(ret("con(0)", call(0, 1), put("eq(tmp(0), tmp(0))"))), "stuck 0 []")
	ends(t, with(ret("con(0)", call(0, 1), store(8, "glo(1)", "tmp(0)"), put("eq(load64(glo(1)), con(0))"), call(1, 1), put("ne(tmp(1), con(0))"))), "exit 0 [0 1]")
	ends(t, with(ret("con(0)", put("eq(glo(0), glo(2))"), put("eq(glo(0), loc(0))"), put("ne(add(glo(0), con(4)), glo(0))"), put("lt(glo(0), add(glo(0), con(4)))"), put("sub(add(glo(0), con(12)), glo(0))"))), "exit 0 [0 0 1 1 12]")
	ends(t, with(ret("con(0)", set(0, "add(glo(0), con(8))"), put("load32(tmp(0))"), set(0, "sub(tmp(0), con(4))"), put("load32(tmp(0))"), set(1, "tmp(0)"), put("eq(tmp(0), tmp(1))"), put("sub(tmp(1), glo(0))"))), "exit 0 [7 6 1 4]")
	ends(t, with(ret("load32(tmp(1))", get(0), call(1, 2, "tmp(0)", "glo(0)", "add(loc(0), con(4))"), store(4, "tmp(1)", "con(9)"), put("load32(glo(0))"), put("load32(add(loc(0), con(4)))"))), "exit 9 [9 2]", 1)
	ends(t, with(ret("load32(tmp(1))", get(0), call(1, 2, "tmp(0)", "glo(0)", "add(loc(0), con(4))"), store(4, "tmp(1)", "con(9)"), put("load32(glo(0))"), put("load32(add(loc(0), con(4)))"))), "exit 9 [5 9]", 0)
	ends(t, with(ret("con(0)", store(8, "loc(1)", "loc(0)"), store(4, "load64(loc(1))", "con(8)"), put("load32(loc(0))"), store(8, "loc(1)", "glo(0)"), put("load32(load64(loc(1)))"))), "exit 0 [8 5]")
	// a branch on a place, which is not 0
	ends(t, with(branch("tmp(1)", 1, 2, get(0), call(1, 2, "tmp(0)", "glo(0)", "con(0)")), ret("load32(tmp(1))"), ret("add(tmp(1), con(4))")), "exit 5 []", 1)
	ends(t, with(branch("tmp(1)", 1, 2, get(0), call(1, 2, "tmp(0)", "glo(0)", "con(0)")), ret("load32(tmp(1))"), ret("add(tmp(1), con(4))")), "exit 4 []", 0)
}

// TestCalls is of P10.1: functions that are never called, Main that is called again, calls whose answer
// goes nowhere, parameters that are written.
func TestCalls(t *testing.T) {
	q := ends(t, prog(nil, fn(0, nil, ret("con(1)")), fn(3, []api.Obj{obj(4, 1)}, branch("tmp(0)", 1, 0), jump(2, call(-1, 2)), jump(0)), fn(0, nil, ret("con(2)", call(-1, 1, "con(1)", "con(2)", "con(3)")))), "exit 1 []")
	if graphText(q.Funcs[1]) != "return con(0)" || q.Funcs[1].Temps != 3 || graphText(q.Funcs[2]) != "return con(0)" {
		t.Errorf("%s", whole(q))
	}
	p := prog([]api.Obj{obj(4, 1)}, fn(1, nil, ret("add(tmp(1), tmp(0))", call(1, 1))), fn(0, []api.Obj{obj(4, 2)}, branch("lt(load32(glo(0)), con(3))", 1, 2, store(4, "glo(0)", "add(load32(glo(0)), con(1))"), put("load32(glo(0))")), ret("tmp(0)", call(0, 0, "con(5)")), ret("con(4)")))
	p.Main = 1
	ends(t, p, "exit 14 [1 2 3]")
	ends(t, prog(nil, fn(0, nil, ret("con(1)", call(3, 1, "con(5)"), call(-1, 1, "con(6)"))), fn(1, nil, ret("con(2)", put("tmp(0)"), set(0, "add(tmp(0), con(1))"), put("tmp(0)")))), "exit 1 [5 6 6 7]")
	// a function that always tells the same, and one that does so on some ways
	ends(t, prog(nil, fn(0, nil, branch("tmp(0)", 1, 2, call(0, 1)), ret("tmp(0)"), ret("con(8)")), fn(0, nil, ret("con(3)", put("con(2)")))), "exit 3 [2]")
	same := fn(1, nil, branch("tmp(0)", 1, 2), ret("con(3)"), ret("con(4)"))
	ends(t, prog(nil, fn(0, nil, ret("add(mul(tmp(0), con(10)), tmp(1))", call(0, 1, "con(0)"), call(1, 1, "con(1)"))), same), "exit 43 []")
}

// TestLives is of P10.1: temporaries that are asked for behind a loop's jump back, or on one way alone.
func TestLives(t *testing.T) {
	loop := simple(jump(1, get(0), set(1, "con(1)"), set(2, "mul(tmp(0), con(3))")), branch("tmp(0)", 2, 3), jump(1, put("tmp(1)"), set(1, "add(tmp(1), tmp(2))"), set(0, "sub(tmp(0), con(1))"), put("tmp(3)"), set(3, "tmp(1)")), ret("tmp(1)", put("tmp(3)")))
	ends(t, loop, "exit 13 [1 0 7 7 13]", 2)
	one := simple(branch("tmp(0)", 1, 2, get(0), set(1, "mul(tmp(0), tmp(0))"), set(2, "add(tmp(0), con(7))")), ret("tmp(1)", put("tmp(1)")), ret("tmp(2)"))
	becomes(t, one, "get 0; branch tmp(0) 1 2 / set 1 mul(tmp(0), tmp(0)); put tmp(1); return tmp(1) / return con(7)", []int64{0}, []int64{5})
	// set on one way, and 0 on the other one
	ends(t, simple(branch("tmp(0)", 1, 2, get(0)), jump(2, set(1, "tmp(0)")), ret("tmp(1)", put("tmp(1)"), put("tmp(1)"))), "exit 0 [0 0]", 0)
	ends(t, simple(branch("tmp(0)", 1, 2, get(0)), jump(2, set(1, "tmp(0)")), ret("tmp(1)", put("tmp(1)"), put("tmp(1)"))), "exit 6 [6 6]", 6)
	// what was first in a loop is another thing in its next turn
	ends(t, simple(jump(1, get(0)), branch("tmp(0)", 2, 3, set(1, "tmp(0)"), get(0)), jump(1, put("tmp(1)"), put("tmp(0)"), put("eq(tmp(0), tmp(1))")), ret("add(tmp(1), mul(tmp(0), con(10)))")), "exit 6 [5 5 1 5 6 0]", 5, 5, 6)
}

// TestInAndOut is of P10.1: what comes in and is put out keeps its order.
func TestInAndOut(t *testing.T) {
	ends(t, simple(ret("sub(tmp(0), tmp(1))", get(0), get(1), put("tmp(1)"), get(2), put("tmp(0)"), set(1, "mul(tmp(1), tmp(2))"), get(3))), "exit 1 [2 7]", 7, 2, 3, 4)
	ends(t, simple(ret("tmp(0)", get(0), get(0), put("tmp(0)"), get(1), get(0))), "exit 4 [2]", 1, 2, 3, 4)
	becomes(t, simple(ret("tmp(1)", get(0), set(1, "tmp(0)"))), "get 0; return tmp(0)", []int64{4})
	becomes(t, simple(jump(1, get(0), set(1, "tmp(0)")), branch("tmp(1)", 1, 2, put("tmp(1)"), get(0), set(1, "tmp(0)")), ret("tmp(1)")), "get 0; jump 1 / put tmp(0); get 0; branch tmp(0) 1 2 / return con(0)", []int64{4, 5})
}

// TestWriters is of P10.1: functions that write, themselves or by what they call, and such that do not.
func TestWriters(t *testing.T) {
	globals := []api.Obj{obj(8, 2), obj(4, 2, 5)}
	last := fn(0, []api.Obj{obj(4, 1)}, ret("con(1)", store(8, "glo(0)", "loc(0)")))
	through := func(to int) api.Graph { return fn(0, nil, ret("con(1)", call(-1, to))) }
	load := "eq(load64(glo(0)), con(0))"
	first := func(to int) api.Graph {
		return fn(0, nil, ret("con(0)", set(0, load), put("tmp(0)"), put("tmp(0)"), call(-1, to), put(load)))
	}
	ends(t, prog(globals, first(1), last), "exit 0 [1 1 0]")
	ends(t, prog(globals, first(1), through(2), through(3), last), "exit 0 [1 1 0]")
	ends(t, prog(globals, first(3), last, through(1), through(2)), "exit 0 [1 1 0]")
	two := prog(globals, fn(0, nil, ret("tmp(0)", call(0, 1, "load32(glo(1))", "load32(add(glo(1), con(4)))"), put("eq(tmp(0), load32(add(glo(1), con(4))))"), put("eq(tmp(0), load32(glo(1)))"))), fn(2, nil, ret("tmp(0)", put("tmp(1)"))))
	ends(t, two, "exit 5 [0 0 1]")
	// what waits for a step is told ahead of what that changes
	ends(t, prog(globals, fn(0, nil, ret("tmp(0)", set(0, "load32(glo(1))"), call(-1, 1), put("add(tmp(0), load32(glo(1)))"))), fn(0, nil, ret("con(0)", store(4, "glo(1)", "con(9)")))), "exit 5 [14]")
	ends(t, prog(globals, fn(0, nil, ret("con(0)", set(0, "load32(glo(1))"), call(-1, 1), put("tmp(0)"))), through(2), fn(0, nil, ret("con(0)", store(4, "glo(1)", "con(9)")))), "exit 0 [5]")
	ends(t, prog(globals, fn(0, nil, branch("tmp(1)", 1, 2, get(1), set(0, "load32(glo(1))"), store(4, "glo(1)", "con(8)")), ret("tmp(0)"), ret("con(2)"))), "exit 5 []", 1)
	ends(t, prog(globals, fn(0, nil, branch("tmp(1)", 1, 2, get(1), set(0, "load32(glo(1))")), ret("tmp(0)", store(4, "glo(1)", "con(8)")), ret("con(2)"))), "exit 5 []", 1)
}

// TestFarPlaces is of P10.1: places that are told by how far others are from each other.
func TestFarPlaces(t *testing.T) {
	globals := []api.Obj{obj(4, 4, 5, 6), obj(4, 4, 7, 8), obj(8, 2)}
	for _, far := range []string{"sub(add(glo(0), con(8)), add(tmp(2), con(4)))", "sub(add(glo(0), con(4)), tmp(2))", "sub(add(glo(0), con(4)), load64(glo(2)))", "sub(add(tmp(2), con(4)), glo(0))", "sub(add(glo(0), con(8)), add(con(4), tmp(2)))"} {
		first := []api.Step{store(8, "glo(2)", "glo(0)"), call(1, 1, "glo(1)"), call(2, 1, "glo(0)")}
		at := "add(tmp(1), " + far + ")"
		first = append(first, set(3, "load32(add(glo(1), con(4)))"), set(4, "load32(glo(0))"), put("add(tmp(3), tmp(4))"), put("sub(tmp(3), tmp(4))"))
		p := prog(globals, fn(0, nil, ret("load32("+at+")", append(first, store(4, at, "con(9)"), put("load32(add(glo(1), con(4)))"), put("load32(glo(0))"))...)), fn(1, nil, ret("tmp(0)")))
		ends(t, p, "exit 9 [13 3 9 5]")
	}
}

// TestLargeValues is of P10.1: values of which no small tree tells what they are.
func TestLargeValues(t *testing.T) {
	steps := []api.Step{get(0), get(1)}
	for i := range 120 {
		n := fmt.Sprint("con(", i, ")")
		steps = append(steps, set(3, "xor(add(tmp(3), tmp(0)), "+n+")"), set(4, "add(xor(tmp(4), tmp(1)), "+n+")"), set(5, "xor(add(tmp(5), tmp(0)), "+n+")"))
		if i%17 == 0 {
			steps = append(steps, put("tmp(3)"), put("tmp(4)"), put("eq(tmp(3), tmp(4))"), put("eq(tmp(3), tmp(5))"))
		}
	}
	p := simple(branch("eq(tmp(3), tmp(4))", 2, 1, steps...), branch("eq(tmp(3), tmp(5))", 2, 0, put("tmp(3)"), put("tmp(5)")), ret("tmp(4)"))
	o := ran(t, p, []int64{77, 1 << 50}, plenty)
	if q := better(t, p, []int64{77, 1 << 50}, []int64{0, 0}, []int64{1, 1}); o.Kind != api.OExit || q.Funcs[0].Blocks[1].End != api.EndReturn {
		t.Errorf("%s by %s", show(o), blockText(q.Funcs[0].Blocks[1]))
	}
}
