package opt_test

import (
	"fmt"
	"strings"
	"testing"

	"gantlet/api"
)

// TestReturns is of the chapter's example: a jump to a block that returns returns.
func TestReturns(t *testing.T) {
	becomes(t, simple(jump(1), ret("con(7)")), "return con(7)")
	becomes(t, simple(jump(2), ret("con(7)"), jump(1)), "return con(7)")
	becomes(t, simple(jump(2, put("con(1)")), ret("con(7)"), jump(1, put("con(2)"))), "put con(1); put con(2); return con(7)")
	becomes(t, simple(branch("tmp(0)", 1, 2, get(0)), jump(3, put("con(1)")), jump(3, put("con(2)")), ret("tmp(0)")),
		"get 0; branch tmp(0) 1 2 / put con(1); return tmp(0) / put con(2); return con(0)", []int64{5})
	long := "load32(add(glo(0), shl(and(add(mul(tmp(0), con(3)), xor(tmp(0), con(1))), con(1)), con(2))))"
	two := prog([]api.Obj{obj(4, 2, 5, 6)}, fn(0, nil, branch("tmp(0)", 1, 2, get(0)), jump(3, put("con(1)")), jump(3, put("con(2)"), store(4, "glo(0)", "tmp(0)")), ret(long)))
	becomes(t, two, "get 0; branch tmp(0) 1 2 / put con(1); return load32(add(glo(0), shl(and(sub(xor(tmp(0), con(-1)), tmp(0)), con(1)), con(2)))) / put con(2); store4 glo(0) con(0); return load32(add(glo(0), con(4)))", []int64{5}, []int64{6})
}

// TestTrees is of P10.1: trees are folded, wherever they stand.
func TestTrees(t *testing.T) {
	sum := "add(add(tmp(0), con(1)), sub(con(4), con(2)))"
	p := prog([]api.Obj{obj(4, 4)}, fn(0, nil, branch("lt("+sum+", con(9))", 1, 2, get(0), put(sum), store(4, "add(add(glo(0), con(1)), con(3))", sum), call(-1, 1, sum)), ret(sum), ret("con(1)", exit(sum))),
		fn(1, nil, ret("con(0)", put("tmp(0)"))))
	becomes(t, p, "get 0; put add(tmp(0), con(3)); store4 add(glo(0), con(4)) add(tmp(0), con(3)); call f1 add(tmp(0), con(3)); branch lt(add(tmp(0), con(3)), con(9)) 1 2 / return add(tmp(0), con(3)) / exit add(tmp(0), con(3)); return con(0)", []int64{3}, []int64{30})
}

// TestKnown is of P10.1: what temporaries have is known: 0 at first, numbers, places, what others have.
func TestKnown(t *testing.T) {
	becomes(t, simple(ret("tmp(5)", put("add(tmp(3), con(2))"))), "put con(2); return con(0)")
	if q := better(t, simple(ret("mul(tmp(15), tmp(17))", get(15), get(17), set(7, "con(1)")))); q.Funcs[0].Temps != 2 {
		t.Errorf("%d temporaries", q.Funcs[0].Temps)
	}
	becomes(t, simple(ret("tmp(1)", set(0, "con(3)"), set(1, "mul(tmp(0), tmp(0))"), put("add(tmp(1), tmp(0))"))), "put con(12); return con(9)")
	becomes(t, prog([]api.Obj{obj(4, 2, 8, 9)}, fn(0, nil, ret("load32(tmp(1))", set(0, "glo(0)"), set(1, "add(con(4), tmp(0))"), put("load32(tmp(0))")))), "put load32(glo(0)); return load32(add(glo(0), con(4)))")
	becomes(t, simple(ret("tmp(2)", get(0), set(1, "tmp(0)"), set(2, "tmp(1)"), put("tmp(1)"), put("sub(tmp(2), tmp(0))"))), "get 0; put tmp(0); put con(0); return tmp(0)", []int64{4})
	becomes(t, simple(ret("add(tmp(0), tmp(1))", get(0), set(1, "tmp(0)"), set(0, "con(2)"), put("tmp(1)"))), "get 0; put tmp(0); return add(tmp(0), con(2))", []int64{4})
	becomes(t, simple(jump(1, get(0), set(1, "mul(tmp(0), tmp(0))"), put("tmp(1)")), ret("mul(tmp(0), tmp(0))", put("tmp(1)"))), "get 0; set 1 mul(tmp(0), tmp(0)); put tmp(1); put tmp(1); return tmp(1)", []int64{4})
}

// TestOnWays is of P10.1: what is known on all ways to a block is known there; what is not, is not.
func TestOnWays(t *testing.T) {
	ins := [][]int64{{0}, {1}, {5}, {-1}}
	two := func(a, b string, last api.Block) api.Prog {
		return simple(branch("tmp(0)", 1, 2, get(0)), jump(3, put("con(1)"), set(1, a)), jump(3, put("con(2)"), set(1, b)), last)
	}
	use := jump(4, put("tmp(1)"), put("add(tmp(1), con(1))"), put("tmp(1)"), put("tmp(1)"), put("tmp(1)"))
	last := ret("con(0)", put("con(9)"))
	with := func(p api.Prog) api.Prog {
		p.Funcs[0].Blocks = append(p.Funcs[0].Blocks, last)
		return p
	}
	becomes(t, with(two("con(4)", "con(4)", use)), "get 0; branch tmp(0) 1 2 / put con(1); jump 3 / put con(2); jump 3 / put con(4); put con(5); put con(4); put con(4); put con(4); put con(9); return con(0)", ins...)
	becomes(t, with(two("con(4)", "con(5)", use)), "get 0; branch tmp(0) 1 2 / put con(1); set 1 con(4); jump 3 / put con(2); set 1 con(5); jump 3 / put tmp(1); put add(tmp(1), con(1)); put tmp(1); put tmp(1); put tmp(1); put con(9); return con(0)", ins...)
	// by which way it goes
	becomes(t, simple(branch("tmp(0)", 1, 2, get(0)), ret("tmp(0)"), ret("add(tmp(0), con(1))")), "get 0; branch tmp(0) 1 2 / return tmp(0) / return con(1)", ins...)
	becomes(t, simple(branch("eq(tmp(0), con(5))", 1, 2, get(0)), ret("mul(tmp(0), tmp(0))"), ret("tmp(0)")), "get 0; branch eq(tmp(0), con(5)) 1 2 / return con(25) / return tmp(0)", ins...)
	becomes(t, simple(branch("ne(tmp(0), con(5))", 1, 2, get(0)), ret("tmp(0)"), ret("add(tmp(0), con(1))")), "get 0; branch ne(tmp(0), con(5)) 1 2 / return tmp(0) / return con(6)", ins...)
	becomes(t, simple(branch("lt(tmp(0), con(5))", 1, 2, get(0)), branch("lt(tmp(0), con(5))", 3, 4, put("con(1)")), branch("le(con(5), tmp(0))", 3, 4, put("con(2)")), ret("con(3)"), ret("con(4)")),
		"get 0; branch lt(tmp(0), con(5)) 1 2 / put con(1); return con(3) / put con(2); return con(3)", ins...)
	becomes(t, simple(branch("sub(tmp(0), tmp(1))", 1, 2, get(0), get(1)), ret("tmp(0)"), ret("tmp(1)", put("sub(tmp(0), tmp(1))"))), "get 0; get 1; branch sub(tmp(0), tmp(1)) 1 2 / return tmp(0) / put con(0); return tmp(1)", []int64{3, 3}, []int64{3, 4})
	// beyond a block without steps, where it is known how it goes on
	becomes(t, simple(branch("tmp(0)", 1, 2, get(0)), branch("lt(tmp(0), con(3))", 2, 3, put("con(1)")), branch("tmp(0)", 3, 4), ret("con(5)"), ret("con(6)")),
		"get 0; branch tmp(0) 1 2 / put con(1); return con(5) / return con(6)", ins...)
}

// TestBranches is of P10.1 and P10.2: branches on numbers, on places, on what comes to be a number, and
// such that lead to one block.
func TestBranches(t *testing.T) {
	a, b := ret("con(1)", put("con(11)")), ret("con(2)", put("con(12)"))
	for _, cond := range []string{"con(1)", "con(-1)", "con(256)", "con(-9223372036854775808)", "glo(0)", "add(glo(0), con(2))", "loc(0)", "eq(con(3), con(3))", "or(tmp(0), con(1))", "ne(glo(0), con(0))"} {
		becomes(t, prog([]api.Obj{obj(2, 1)}, fn(0, []api.Obj{obj(1, 1)}, branch(cond, 1, 2), a, b)), "put con(11); return con(1)")
		becomes(t, prog([]api.Obj{obj(2, 1)}, fn(0, []api.Obj{obj(1, 1)}, branch(cond, 2, 1), a, b)), "put con(12); return con(2)")
	}
	for _, cond := range []string{"con(0)", "tmp(0)", "and(tmp(0), con(7))", "eq(glo(0), con(0))", "sub(con(3), con(3))", "zext8(con(256))"} {
		becomes(t, prog([]api.Obj{obj(2, 1)}, fn(0, nil, branch(cond, 1, 2), a, b)), "put con(12); return con(2)")
	}
	becomes(t, simple(branch("tmp(0)", 1, 1, get(0)), a, b), "get 0; put con(11); return con(1)", []int64{1})
	becomes(t, simple(branch("tmp(0)", 3, 4, get(0)), a, b, jump(1), jump(1)), "get 0; put con(11); return con(1)", []int64{1})
	// what is asked of a branch is whether it is 0
	becomes(t, simple(branch("eq(tmp(0), con(0))", 1, 2, get(0)), a, b), "get 0; branch tmp(0) 2 1 / put con(11); return con(1) / put con(12); return con(2)", []int64{1})
	becomes(t, simple(branch("ne(tmp(0), con(0))", 1, 2, get(0)), a, b), "get 0; branch tmp(0) 1 2 / put con(11); return con(1) / put con(12); return con(2)", []int64{1})
	becomes(t, simple(branch("xor(lt(tmp(0), con(3)), con(1))", 1, 2, get(0)), a, b), "get 0; branch le(con(3), tmp(0)) 1 2 / put con(11); return con(1) / put con(12); return con(2)", []int64{1})
}

// TestLargeBranches is of P10.2: branches on trees of many nodes, of which just fold knows that they are
// always 0, or never.
func TestLargeBranches(t *testing.T) {
	x, y := "tmp(0)", "tmp(1)"
	for i := range 9 {
		x = fmt.Sprint("mul(add(", x, ", con(", i+1, ")), tmp(", i%3, "))")
		y = fmt.Sprint("div(sub(", y, ", con(", i+1, ")), tmp(", i%3, "))")
	}
	gets := []api.Step{get(0), get(1), get(2)}
	plain := "add(zext8(" + x + "), zext8(" + y + "))"
	for _, c := range [][2]string{{"lt(con(-1), " + plain + ")", "con(1)"}, {"lt(" + plain + ", con(0))", "con(2)"}, {"add(" + plain + ", con(1))", "con(1)"}} {
		becomes(t, simple(branch(c[0], 1, 2, gets...), ret("con(1)"), ret("con(2)")), "get 0; get 1; get 2; return "+c[1], []int64{3, 4, 5})
	}
}

// TestAnswers is of P10.1: what functions always return is known.
func TestAnswers(t *testing.T) {
	three := fn(1, nil, branch("tmp(0)", 1, 2, put("tmp(0)")), ret("con(3)", put("con(1)"), put("con(1)"), put("con(1)"), put("con(1)"), put("con(1)"), put("con(1)"), put("con(1)")), ret("con(3)"))
	becomes(t, prog(nil, fn(0, nil, ret("add(tmp(1), con(1))", get(0), call(1, 1, "tmp(0)"), put("tmp(1)"))), three), "get 0; call f1 tmp(0); put con(3); return con(4)", []int64{0}, []int64{1})
	three.Blocks[2] = ret("con(4)")
	becomes(t, prog(nil, fn(0, nil, ret("add(tmp(1), con(1))", get(0), call(1, 1, "tmp(0)"), put("tmp(1)"))), three), "get 0; call 1 f1 tmp(0); put tmp(1); return add(tmp(1), con(1))", []int64{0}, []int64{1})
}

// TestRings is of P10.1 and P10.2: jumps that go round, and loops.
func TestRings(t *testing.T) {
	becomes(t, simple(jump(0)), "jump 0")
	becomes(t, simple(jump(1), jump(2), jump(3), jump(1)), "jump 0")
	becomes(t, simple(jump(1, put("con(1)")), jump(2), jump(1)), "put con(1); jump 1 / jump 1")
	becomes(t, simple(jump(0, put("con(1)"))), "put con(1); jump 0")
	becomes(t, simple(jump(1, put("con(1)")), jump(0)), "put con(1); jump 0")
	becomes(t, simple(branch("tmp(0)", 1, 2, get(0)), jump(2), jump(1)), "get 0; jump 1 / jump 1", []int64{1})
	becomes(t, simple(branch("tmp(0)", 0, 1, get(0)), ret("con(1)")), "get 0; branch tmp(0) 0 1 / return con(1)", []int64{1, 1})
	becomes(t, simple(branch("tmp(0)", 1, 2, get(0)), jump(0, put("tmp(0)")), ret("con(1)")), "get 0; branch tmp(0) 1 2 / put tmp(0); get 0; branch tmp(0) 1 2 / return con(1)", []int64{1, 7})
	becomes(t, simple(jump(1), branch("lt(tmp(0), con(3))", 2, 3), jump(1, put("tmp(0)"), set(0, "add(tmp(0), con(1))")), ret("tmp(0)")), "put tmp(0); set 0 add(tmp(0), con(1)); branch lt(tmp(0), con(3)) 0 1 / return tmp(0)")
	// the block that is entered is the end of a loop
	becomes(t, simple(branch("tmp(0)", 1, 2), jump(0, put("tmp(1)"), get(0)), jump(0, get(0), set(1, "add(tmp(1), con(1))"))), "get 0; set 1 add(tmp(1), con(1)); branch tmp(0) 1 0 / put tmp(1); get 0; branch tmp(0) 1 0", []int64{1, 0, 5})
}

// TestUnreached is of P10.2: blocks that none leads to, and that only such ones lead to.
func TestUnreached(t *testing.T) {
	becomes(t, simple(ret("con(1)"), ret("con(2)")), "return con(1)")
	becomes(t, simple(ret("con(1)"), jump(2), jump(3, put("con(1)")), branch("tmp(0)", 1, 2)), "return con(1)")
	becomes(t, simple(jump(3), jump(2), branch("con(1)", 1, 3), ret("con(4)"), jump(3)), "return con(4)")
	becomes(t, simple(branch("con(0)", 1, 2), jump(1, put("con(1)")), ret("con(4)")), "return con(4)")
	becomes(t, simple(branch("tmp(0)", 1, 2, exit("con(4)")), ret("con(1)"), ret("con(2)")), "exit con(4); return con(0)")
	becomes(t, simple(jump(1, put("con(1)"), exit("con(4)"), put("con(2)")), jump(0, put("con(3)"))), "put con(1); exit con(4); return con(0)")
	// a function that never returns
	p := prog(nil, fn(0, nil, branch("tmp(0)", 1, 2, get(0)), jump(2, call(0, 1, "con(3)"), put("con(1)")), ret("con(2)", put("con(2)"))),
		fn(1, nil, branch("tmp(0)", 1, 2), ret("con(1)", exit("tmp(0)")), jump(2)))
	becomes(t, p, "get 0; branch tmp(0) 1 2 / call f1 con(3); return con(0) / put con(2); return con(2)", []int64{1})
}

// TestMemory is of P10.1: what is loaded where it is known, and stores of which nobody asks.
func TestMemory(t *testing.T) {
	globals := []api.Obj{obj(4, 4, 5, 6), obj(8, 2), obj(1, 2), obj(4, 4)}
	one := func(want string, l ...api.Step) {
		t.Helper()
		p := prog(globals, fn(0, []api.Obj{obj(4, 4), obj(8, 2), obj(1, 4)}, ret("con(0)", l...)), fn(1, nil, ret("con(0)", put("load32(glo(0))"))), fn(1, nil, ret("tmp(0)")))
		becomes(t, p, want+"; return con(0)", []int64{3}, []int64{-1}, []int64{1 << 40})
	}
	// what was stored, or loaded
	one("get 0; store4 glo(0) tmp(0); put ext32(tmp(0)); put zext32(tmp(0))", get(0), store(4, "glo(0)", "tmp(0)"), put("load32(glo(0))"), put("loadu32(glo(0))"))
	one("get 0; store1 add(glo(2), con(1)) con(255); put con(-1); put con(255)", get(0), store(1, "add(glo(2), con(1))", "con(255)"), put("load8(add(glo(2), con(1)))"), put("loadu8(add(glo(2), con(1)))"))
	one("get 0; store8 glo(1) tmp(0); put tmp(0)", get(0), store(8, "glo(1)", "tmp(0)"), put("load64(glo(1))"))
	one("set 0 load32(glo(0)); put tmp(0); put tmp(0); put add(tmp(0), con(1))", set(0, "load32(glo(0))"), put("tmp(0)"), put("tmp(0)"), put("add(load32(glo(0)), con(1))"))
	one("set 0 loadu32(glo(0)); put tmp(0); put tmp(0); put load32(glo(0))", set(0, "loadu32(glo(0))"), put("tmp(0)"), put("tmp(0)"), put("load32(glo(0))"))
	one("set 0 load32(glo(0)); put tmp(0); put tmp(0)", set(0, "load32(glo(0))"), put("tmp(0)"), store(4, "glo(0)", "tmp(0)"), put("load32(glo(0))"))
	one("store8 glo(1) glo(0); store4 glo(0) con(7); put con(7)", store(8, "glo(1)", "glo(0)"), store(4, "load64(glo(1))", "con(7)"), put("load32(glo(0))"))
	one("set 0 load32(glo(0)); put tmp(0); call f2 con(1); put tmp(0); put tmp(0)", set(0, "load32(glo(0))"), put("tmp(0)"), call(-1, 2, "con(1)"), put("load32(glo(0))"), put("tmp(0)"))
	// stores that change something else
	moved := "add(glo(0), shl(tmp(1), con(2)))"
	for _, c := range [][2]string{{"glo(0)", "add(glo(0), con(4))"}, {"glo(0)", "glo(3)"}, {"add(glo(3), con(4))", "add(glo(0), con(4))"}, {"glo(0)", "add(glo(3), shl(tmp(1), con(2)))"}, {moved, "glo(3)"}, {moved, "add(" + moved + ", con(4))"}} {
		one("get 1; set 0 load32("+c[0]+"); put tmp(0); put tmp(0); store4 "+c[1]+" con(7); put tmp(0)", get(1), set(0, "load32("+c[0]+")"), put("tmp(0)"), put("tmp(0)"), store(4, c[1], "con(7)"), put("load32("+c[0]+")"))
	}
	one("set 0 load32(glo(0)); put tmp(0); put tmp(0); store8 glo(1) con(7); put tmp(0)", set(0, "load32(glo(0))"), put("tmp(0)"), put("tmp(0)"), store(8, "glo(1)", "con(7)"), put("load32(glo(0))"))
	// what is stored again ahead of a load
	one("put con(0); store4 glo(0) con(2)", store(4, "glo(0)", "con(1)"), put("con(0)"), store(4, "glo(0)", "con(2)"))
	one("get 0; store4 glo(0) con(1); put load32(add(glo(0), shl(tmp(0), con(2)))); store4 glo(0) con(2)", get(0), store(4, "glo(0)", "con(1)"), put("load32(add(glo(0), shl(tmp(0), con(2))))"), store(4, "glo(0)", "con(2)"))
	one("store4 glo(0) con(1); call f1 con(0); store4 glo(0) con(2)", store(4, "glo(0)", "con(1)"), call(-1, 1, "con(0)"), store(4, "glo(0)", "con(2)"))
	one("exit con(3)", store(4, "glo(0)", "con(1)"), exit("con(3)"))
	one("exit con(1)", store(4, "glo(0)", "con(1)"), exit("load32(glo(0))"))
	// by a place that is another one later
	one("get 0; store4 add(glo(0), shl(and(tmp(0), con(3)), con(2))) con(1); get 0; store4 add(glo(0), shl(and(tmp(0), con(3)), con(2))) con(2)", get(0), store(4, "add(glo(0), shl(and(tmp(0), con(3)), con(2)))", "con(1)"), get(0), store(4, "add(glo(0), shl(and(tmp(0), con(3)), con(2)))", "con(2)"))
	p := prog(globals, fn(0, nil, branch("tmp(0)", 1, 1, store(8, "glo(1)", "glo(0)"), get(0), call(-1, 1)), ret("con(0)", store(4, "load64(glo(1))", "con(1)"), store(8, "glo(1)", "add(glo(0), con(4))"), store(4, "load64(glo(1))", "con(2)"), put("load32(glo(0))"), put("load32(add(glo(0), con(4)))"))),
		fn(0, nil, ret("con(0)", store(8, "add(glo(1), con(8))", "glo(0)"))))
	ends(t, p, "exit 0 [1 2]")
}

// TestLocals is of P10.1: elements of locals become temporaries, and locals that are not loaded, or not
// named, are left out, each with its elements' steps.
func TestLocals(t *testing.T) {
	for i, size := range []int{1, 2, 4, 8} {
		load := []string{"load8", "load16", "load32", "load64"}[i]
		at := fmt.Sprint("add(loc(1), con(", size, "))")
		sum := "add(" + load + "(loc(1)), " + load + "(" + at + "))"
		p := prog(nil, fn(0, []api.Obj{obj(size, 2), obj(size, 2), obj(size, 64)}, branch("tmp(0)", 1, 2, get(0), put(load+"(loc(1))"), store(size, at, "tmp(0)")), jump(0, store(size, "loc(1)", sum), put(load+"("+at+")")), ret(sum)))
		q := better(t, p, []int64{300}, []int64{0}, []int64{3, 4}, []int64{100, 100, 200, 1 << 40})
		if g := q.Funcs[0]; len(g.Locals) > 0 || strings.Contains(graphText(g), "load") {
			t.Errorf("%s", graphText(g))
		}
	}
	// whose places go elsewhere
	for _, step := range []api.Step{store(8, "glo(0)", "loc(0)"), call(-1, 1, "loc(0)"), set(3, "add(loc(0), shl(tmp(0), con(2)))"), put("eq(loc(0), tmp(3))")} {
		p := prog([]api.Obj{obj(8, 1)}, fn(0, []api.Obj{obj(4, 2)}, branch("tmp(0)", 1, 1, get(0), store(4, "loc(0)", "con(5)"), step), ret("load32(loc(0))", store(4, "tmp(3)", "con(7)"))), fn(1, nil, ret("con(0)", store(4, "tmp(0)", "con(9)"))))
		better(t, p, []int64{0}, []int64{1})
	}
	// of which it is not known where they are accessed
	index := "add(loc(0), shl(and(tmp(0), con(1)), con(2)))"
	q := better(t, prog(nil, fn(0, []api.Obj{obj(4, 2)}, ret("load32(loc(0))", get(0), store(4, index, "con(5)")))), []int64{0}, []int64{1})
	if len(q.Funcs[0].Locals) != 1 {
		t.Errorf("%s", graphText(q.Funcs[0]))
	}
	becomes(t, prog(nil, fn(0, []api.Obj{obj(4, 2)}, ret("con(3)", get(0), store(4, index, "con(5)"), put("tmp(0)")))), "get 0; put tmp(0); return con(3)", []int64{1})
	becomes(t, prog(nil, fn(0, []api.Obj{obj(4, 2)}, branch("tmp(0)", 0, 1, get(0), store(4, index, "con(5)"), put("tmp(0)")), ret("con(3)"))), "get 0; put tmp(0); branch tmp(0) 0 1 / return con(3)", []int64{1, 1, 0})
	// that are not 0 at first
	becomes(t, prog(nil, fn(0, []api.Obj{obj(4, 2, 6)}, ret("load32(loc(0))"))), "return load32(loc(0))")
}

// TestLongChains is of P10.1: large blocks of which the one leads to the other one alone come together.
func TestLongChains(t *testing.T) {
	steps := func(n int) []api.Step {
		return []api.Step{get(n), put(tmp(n)), put("mul(" + tmp(n) + ", con(3))"), put("mul(" + tmp(n) + ", con(5))"), put("mul(" + tmp(n) + ", con(7))")}
	}
	p := simple(jump(2, steps(0)...), branch("tmp(1)", 3, 0, steps(1)...), jump(1, steps(2)...), ret("tmp(0)", steps(3)...))
	q := better(t, p, []int64{1, 2, 3, 4})
	if g := q.Funcs[0]; len(g.Blocks) != 2 {
		t.Errorf("%s", graphText(g))
	}
	becomes(t, simple(ret("tmp(1)", get(0), put("con(7)"), get(2), set(1, "tmp(0)"), put("tmp(1)"))), "get 0; put con(7); get 1; put tmp(0); return tmp(0)", []int64{3})
	becomes(t, simple(ret("tmp(1)", get(0), put("con(7)"), get(2), set(1, "tmp(0)"), put("tmp(2)"), get(0), put("tmp(0)"))), "get 1; put con(7); get 2; put tmp(2); get 0; put tmp(0); return tmp(1)", []int64{3, 4, 5})
}
