package graph_test

import (
	"math"
	"slices"
	"strings"
	"testing"

	"gantlet/api"
	"gantlet/graph"
	"gantlet/sample"
)

// TestSteps is of P7.1: how a program ends, and how many steps that is, counted by hand.
func TestSteps(t *testing.T) {
	leaf := fn(0, nil, ret("con(9)"))
	large := fn(1, objs(obj(1, 64), obj(8, 3)), ret("tmp(0)"))
	down := fn(1, objs(obj(4, 2)), branch("tmp(0)", 1, 2), ret("add(tmp(0), tmp(1))", call(1, 3, "sub(tmp(0), con(1))")), ret("con(0)"))
	leaves := fn(1, nil, branch("tmp(0)", 1, 2), ret("con(1)", call(-1, 4, "sub(tmp(0), con(1))"), put("con(77)")), ret("con(0)", exit("con(8)")))
	for i, c := range []struct {
		main api.Graph
		want string
	}{
		{fn(0, nil, ret("con(3)")), "exit 3 [] 1/1"},
		{fn(0, nil, ret(con(least))), "exit -9223372036854775808 [] 1/1"},
		{fn(0, nil, ret("add(con(1), add(con(2), con(3)))")), "exit 6 [] 1/1"},
		{fn(0, nil, ret("con(0)", put("con(2)"))), "exit 0 [2] 2/1"},
		{fn(0, nil, ret("tmp(1)", set(1, "con(4)"), set(2, "con(5)"))), "exit 4 [] 3/1"},
		{fn(0, nil, ret("con(1)", exit("con(-7)"), put("con(1)"))), "exit -7 [] 1/1"},
		{fn(0, nil, ret("con(1)", put("con(5)"), exit(con(most)), exit("con(2)"))), "exit 9223372036854775807 [5] 2/1"},
		{fn(0, nil, ret("tmp(0)", get(0))), "exit 41 [] 2/1"},
		{fn(0, nil, jump(1), ret("con(3)")), "exit 3 [] 2/1"},
		{fn(0, nil, jump(2), ret("con(3)"), ret("con(4)", put("con(1)"))), "exit 4 [1] 3/1"},
		{fn(0, nil, jump(2), ret("con(3)"), jump(1, put("con(1)"))), "exit 3 [1] 4/1"},
		{fn(0, nil, branch("con(1)", 1, 2), ret("con(3)"), ret("con(4)")), "exit 3 [] 2/1"},
		{fn(0, nil, branch("con(0)", 1, 2), ret("con(3)"), ret("con(4)")), "exit 4 [] 2/1"},
		{fn(0, nil, branch("lt(tmp(0), con(3))", 0, 1, set(0, "add(tmp(0), con(1))"), put("tmp(0)")), ret("tmp(0)")), "exit 3 [1 2 3] 10/1"},
		{fn(0, nil, branch("tmp(0)", 1, 2, set(0, "eq(tmp(0), con(0))")), ret("con(5)", exit("con(6)")), jump(0)), "exit 6 [] 3/1"},
		{fn(0, objs(obj(1, 5)), ret("con(0)")), "exit 0 [] 6/1"},
		{fn(0, objs(obj(8, 64), obj(1, 1)), ret("con(0)")), "exit 0 [] 66/1"},
		{fn(0, objs(obj(8, 1)), ret("load64(loc(0))", store(8, "loc(0)", "con(6)"))), "exit 6 [] 3/1"},
		{fn(0, nil, ret("tmp(0)", call(0, 1))), "exit 9 [] 3/2"},
		{fn(0, nil, ret("tmp(0)", call(-1, 1))), "exit 0 [] 3/2"},
		{fn(0, nil, ret("tmp(0)", call(-1, 1), call(0, 1), call(1, 1))), "exit 9 [] 7/2"},
		{fn(0, nil, ret("tmp(0)", call(0, 2, "con(5)"))), "exit 5 [] 70/2"},
		{fn(0, nil, ret("tmp(0)", call(0, 2, "con(5)"), call(0, 2, "con(6)"))), "exit 6 [] 139/2"},
		{fn(0, nil, ret("tmp(0)", call(0, 3, "con(0)"))), "exit 0 [] 6/2"},
		{fn(0, nil, ret("tmp(0)", call(0, 3, "con(3)"))), "exit 6 [] 21/5"},
		{fn(0, nil, ret("tmp(0)", call(-1, 3, "con(3)"), call(0, 3, "con(1)"))), "exit 1 [] 31/5"},
		{fn(0, nil, ret("tmp(0)", put("con(1)"), call(0, 4, "con(2)"), put("con(2)"))), "exit 8 [1] 8/4"},
	} {
		p := prog(nil, c.main, leaf, large, down, leaves)
		if got := show(ran(t, p, []int64{41}, 10000)); got != c.want {
			t.Errorf("%d: %s; should be %s", i, got, c.want)
		}
	}
}

// TestSet is of P7.1: a temporary is what it was set to last, whatever the tree is made of.
func TestSet(t *testing.T) {
	puts(t, simple(ret("con(0)", put("tmp(0)"), set(0, "con(4)"), set(1, "tmp(0)"), set(0, "add(tmp(0), tmp(0))"), put("tmp(0)"), put("tmp(1)"), set(0, "sub(tmp(1), tmp(0))"), put("tmp(0)"))), "0 8 4 -4")
	p := simple(ret("con(0)", set(api.MaxTemps-1, "con(4)"), put("tmp(999)"), put("tmp(998)")))
	p.Funcs[0].Temps = api.MaxTemps
	puts(t, p, "4 0")
}

// TestParams is of P7.1: the first temporaries are what is told, of each call its own.
func TestParams(t *testing.T) {
	four := fn(4, nil, ret("tmp(4)", set(4, "add(mul(tmp(0), con(1000)), add(mul(tmp(1), con(100)), add(mul(tmp(2), con(10)), tmp(3))))"), set(0, "con(9)"), put("tmp(4)"), put("tmp(5)"), set(5, "con(3)")))
	p := prog(objs(obj(2, 4, 11, 12, 13)), fn(0, nil, ret("con(0)", set(0, "con(1)"), set(4, "con(50)"), set(5, "con(60)"),
		call(6, 1, "tmp(0)", "con(2)", "add(tmp(0), con(2))", "con(4)"), put("tmp(6)"), put("tmp(0)"), put("tmp(4)"), put("tmp(5)"),
		call(0, 1, "con(5)", "tmp(6)", "con(0)", "tmp(0)"), put("tmp(0)"), call(-1, 2, "add(glo(0), con(4))", "con(7)"), put("load16(add(glo(0), con(4)))"), put("tmp(1)"))),
		four, fn(2, nil, ret("con(0)", put("load16(tmp(0))"), store(2, "tmp(0)", "tmp(1)"))))
	puts(t, p, "1234 0 1234 1 50 60 128401 0 128401 13 7 0")
	one := fn(1, nil, ret("tmp(0)"))
	one.Temps = 1
	puts(t, prog(nil, fn(0, nil, ret("con(0)", call(0, 1, "con(3)"), put("tmp(0)"))), one), "3")
}

// TestIn is of P7.1: what comes in, one after the other, in whichever call; and 0 behind it.
func TestIn(t *testing.T) {
	gets := fn(0, nil, ret("tmp(3)", get(3)))
	p := prog(nil, fn(0, nil, ret("con(0)", get(0), call(1, 1), get(2), get(0), put("tmp(0)"), put("tmp(1)"), put("tmp(2)"))), gets)
	puts(t, p, "0 0 0")
	puts(t, p, "0 0 0", 7)
	puts(t, p, "0 8 0", 7, 8)
	puts(t, p, "5 -9223372036854775808 9223372036854775807", 1, least, most, 5, 6)
}

// TestMain is of P7.1: any function may be Main, and be called by others, and by itself; the
// return of its first call alone ends the program.
func TestMain(t *testing.T) {
	p := prog(nil, fn(1, nil, ret("con(3)", call(-1, 2))), fn(0, nil, ret("con(4)")), fn(0, nil, ret("con(5)", put("con(6)"))))
	for main, want := range []string{"", "exit 4 [] 1/1", "exit 5 [6] 2/1"} {
		p.Main = main
		if main > 0 {
			ends(t, p, want)
		}
	}
	again := fn(0, nil, branch("ltu(load64(glo(0)), con(3))", 1, 2), ret("tmp(0)", store(8, "glo(0)", "add(load64(glo(0)), con(1))"), call(0, 1), put("tmp(0)"), set(0, "add(tmp(0), con(1))")), ret("con(10)"))
	p = prog(objs(obj(8, 1)), fn(0, nil, ret("con(0)")), again)
	p.Main = 1
	ends(t, p, "exit 13 [10 11 12] 20/4")
}

// recursive is a program whose function 1 calls itself as often as comes in, and puts out how often
// it has yet to, ahead of that.
func recursive() api.Prog {
	down := fn(1, nil, branch("tmp(0)", 1, 2, put("tmp(0)")), ret("add(tmp(1), con(1))", call(1, 1, "sub(tmp(0), con(1))")), ret("con(0)"))
	return prog(nil, fn(0, nil, ret("tmp(0)", get(0), call(0, 1, "tmp(0)"))), down)
}

// TestOver is of P7.1: 64 calls at the same time, and one more, told ahead of its elements.
func TestOver(t *testing.T) {
	for n := range 70 {
		o := ran(t, recursive(), []int64{int64(n)}, 1000)
		want := api.Outcome{Kind: api.OExit, Code: int64(n), Steps: 3 + 4*n + 3, Deep: n + 2}
		for i := n; i >= 0; i-- {
			want.Out = append(want.Out, int64(i))
		}
		if n > 62 {
			want = api.Outcome{Kind: api.OOver, Out: want.Out[:63], Steps: 2 + 3*63, Deep: 64}
		}
		if !same(o, want) {
			t.Errorf("%d: %s; should be %s", n, show(o), show(want))
		}
	}
	itself := prog(nil, fn(0, objs(obj(1, 3)), ret("con(0)", put("con(1)"), call(-1, 0))))
	ends(t, itself, "over 0 ["+strings.TrimSpace(strings.Repeat("1 ", 64))+"] 320/64")
	for fuel, want := range map[int]string{319: "fuel 0 [] 319/64", 320: "over 0 [] 320/64", 321: "over 0 [] 320/64"} {
		o := ran(t, itself, nil, fuel)
		o.Out = nil
		if show(o) != want {
			t.Errorf("%d: %s; should be %s", fuel, show(o), want)
		}
	}
	// What is told to the call that is too many comes first.
	last := prog(nil, fn(0, nil, ret("con(0)", call(-1, 1, "con(0)"))), fn(1, nil, ret("con(0)", call(-1, 1, "mul(loc(0), con(1))"))))
	last.Funcs[1].Locals = objs(obj(1, 1))
	if got := show(ran(t, last, nil, 1000)); got != stuck {
		t.Error(got)
	}
	// Calls that have ended are none at the same time.
	twice := fn(1, nil, branch("tmp(0)", 1, 2), ret("con(0)", call(-1, 1, "sub(tmp(0), con(1))")), ret("con(0)"))
	many := prog(nil, fn(0, nil, ret("con(0)", call(-1, 1, "con(62)"), call(-1, 1, "con(62)"), call(-1, 1, "con(3)"))), twice)
	ends(t, many, "exit 0 [] 391/64")
}

// TestFuel is of P7.1: what of a program is done with so much fuel.
func TestFuel(t *testing.T) {
	for i, c := range []struct {
		p    api.Prog
		want string
	}{
		{simple(ret("con(3)", put("con(1)"), put("con(2)"))), "0 [] 0/1,0 [1] 1/1,0 [1 2] 2/1,3 [1 2] 3/1,3 [1 2] 3/1"},
		{simple(ret("con(3)")), "0 [] 0/1,3 [] 1/1,3 [] 1/1"},
		{simple(jump(1), ret("con(3)", exit("con(4)"))), "0 [] 0/1,0 [] 1/1,4 [] 2/1,4 [] 2/1"},
		{prog(nil, fn(0, objs(obj(1, 2), obj(4, 1)), ret("con(0)", put("con(1)")))), "0 [] 0/1,0 [] 1/1,0 [] 2/1,0 [] 3/1,0 [1] 4/1,0 [1] 5/1,0 [1] 5/1"},
		{prog(nil, fn(0, nil, ret("con(5)", put("con(1)"), call(-1, 1), put("con(2)"))), fn(0, objs(obj(8, 3)), ret("con(0)", put("con(7)")))), "0 [] 0/1,0 [1] 1/1,0 [1] 2/2,0 [1] 3/2,0 [1] 4/2,0 [1] 5/2,0 [1 7] 6/2,0 [1 7] 7/2,0 [1 7 2] 8/2,5 [1 7 2] 9/2,5 [1 7 2] 9/2"},
		{prog(nil, fn(0, nil, ret("con(5)", call(-1, 1))), fn(0, nil, ret("con(0)", put("con(7)"), exit("con(8)"), put("con(9)")))), "0 [] 0/1,0 [] 1/2,0 [7] 2/2,8 [7] 3/2,8 [7] 3/2"},
		{simple(branch("eq(tmp(0), con(1))", 0, 1, put("tmp(0)"), set(0, "add(tmp(0), con(1))")), ret("con(0)")), "0 [] 0/1,0 [0] 1/1,0 [0] 2/1,0 [0] 3/1,0 [0 1] 4/1,0 [0 1] 5/1,0 [0 1] 6/1,0 [0 1] 7/1,0 [0 1] 7/1"},
	} {
		l := strings.Split(c.want, ",")
		for fuel, want := range l {
			kind := "fuel "
			if fuel >= len(l)-2 {
				kind = "exit "
			}
			if got := show(ran(t, c.p, nil, fuel)); got != kind+want {
				t.Errorf("%d, %d: %s; should be %s", i, fuel, got, kind+want)
			}
		}
		if got := show(ran(t, c.p, nil, api.MaxMachine)); got != "exit "+l[len(l)-1] {
			t.Errorf("%d: %s with all fuel", i, got)
		}
	}
}

// TestEndsOfFuel is of P7.1: which end it is, where fuel and something else end there.
func TestEndsOfFuel(t *testing.T) {
	deep := fn(0, objs(obj(1, 30)), ret("con(0)", call(-1, 1)))
	for i, c := range []struct {
		p     api.Prog
		steps int // up to where it is stuck, or the stack is used up
		kind  int
	}{
		{simple(ret("con(0)", put("con(1)"), put("load8(con(0))"))), 2, api.OStuck},
		{simple(ret("load64(con(8))", put("con(1)"))), 2, api.OStuck},
		{simple(branch("load64(con(8))", 0, 0)), 1, api.OStuck},
		{prog(objs(obj(1, 1)), fn(0, nil, jump(1, put("con(1)")), ret("glo(0)", put("con(1)")))), 4, api.OStuck},
		{prog(nil, fn(0, objs(obj(1, 9)), ret("con(0)", store(4, "loc(0)", "con(0)")))), 10, api.OStuck},
		{prog(nil, fn(0, nil, ret("con(0)", call(-1, 1))), deep), 31*63 + 1, api.OOver},
	} {
		for fuel := 0; fuel <= c.steps+3; fuel++ {
			if fuel == c.steps+3 {
				fuel = api.MaxMachine
			}
			o := ran(t, c.p, nil, fuel)
			switch {
			case fuel < c.steps && (o.Kind != api.OFuel || o.Steps != fuel || o.Code != 0):
				t.Errorf("%d, %d: %s", i, fuel, show(o))
			case fuel >= c.steps && (o.Kind != c.kind || o.Kind == api.OStuck && show(o) != stuck):
				t.Errorf("%d, %d: %s", i, fuel, show(o))
			case fuel >= c.steps && o.Kind == api.OOver && o.Steps != c.steps:
				t.Errorf("%d, %d: %s", i, fuel, show(o))
			}
		}
	}
}

// TestFuelThatMayBe is of P7.1: from 0 to MaxMachine.
func TestFuelThatMayBe(t *testing.T) {
	p := simple(jump(0, set(0, "add(tmp(0), con(1))")))
	for _, fuel := range []int{0, 1, 2, api.MaxFuel + 1, api.MaxMachine - 1, api.MaxMachine} {
		o := ran(t, p, nil, fuel)
		if show(o) != "fuel 0 [] "+itoa(int64(fuel))+"/1" {
			t.Errorf("%d: %s", fuel, show(o))
		}
	}
	counts := simple(branch("lt(tmp(0), con(999999))", 0, 1, set(0, "add(tmp(0), con(1))")), ret("tmp(0)", put("tmp(0)")))
	for fuel, want := range map[int]string{api.MaxMachine: "exit 999999 [999999] 2000000/1", api.MaxMachine - 1: "fuel 0 [999999] 1999999/1"} {
		if got := show(ran(t, counts, nil, fuel)); got != want {
			t.Errorf("%d: %s; should be %s", fuel, got, want)
		}
	}
	for _, fuel := range []int{-1, api.MaxMachine + 1, math.MinInt, math.MaxInt, math.MinInt32, math.MaxInt32, 1 << 32} {
		o, err := graph.Run(p, nil, fuel)
		if err != api.ErrForm || show(o) != nothing {
			t.Errorf("%d: %s, %d", fuel, show(o), err)
		}
	}
}

// TestManyCalls is of P7.1: calls with locals, one after the other, for as long as there is fuel.
func TestManyCalls(t *testing.T) {
	keeps := fn(1, objs(obj(8, 4)), ret("add(load64(add(loc(0), con(8))), load64(loc(0)))", store(8, "add(loc(0), con(8))", "tmp(0)")))
	main := fn(0, nil, branch("lt(tmp(0), con(200000))", 0, 1, set(0, "add(tmp(0), con(1))"), call(1, 1, "tmp(0)"), set(2, "add(tmp(2), tmp(1))")), ret("con(0)", put("tmp(2)")))
	o := ran(t, prog(nil, main, keeps), nil, api.MaxMachine)
	if show(o) != "fuel 0 [] 2000000/2" {
		t.Error(show(o))
	}
	main.Blocks[0].Cond = tr("lt(tmp(0), con(199999))")
	o = ran(t, prog(nil, main, keeps), nil, api.MaxMachine)
	if show(o) != "exit 0 [19999900000] 1999992/2" {
		t.Error(show(o))
	}
}

// TestMoreFuel is P7.2: what has ended is the same with more fuel, whatever its end is.
func TestMoreFuel(t *testing.T) {
	ended := map[int]bool{}
	for i, p := range samples() {
		in := []int64{3, 1, 66}
		last := ran(t, p, in, api.MaxMachine)
		over := false
		for fuel := 0; fuel <= 6000; fuel += 1 + fuel/300 {
			o := ran(t, p, in, fuel)
			over = over || o.Kind != api.OFuel
			if over && !same(o, last) || !over && (o.Steps != fuel || o.Code != 0 || last.Kind != api.OStuck && !isBeginning(o.Out, last.Out)) {
				t.Errorf("%d, %d: %s; with more %s", i, fuel, show(o), show(last))
			}
		}
		ended[last.Kind] = true
	}
	for _, kind := range []int{api.OExit, api.OFuel, api.OStuck, api.OOver} {
		if !ended[kind] {
			t.Errorf("none ends with %d", kind)
		}
	}
}

// samples are programs with all that there is.
func samples() []api.Prog {
	loop := fn(0, objs(obj(1, 3, 1, 2), obj(8, 2)), jump(1, get(0), store(8, "add(loc(1), con(8))", "loc(0)")),
		branch("lt(tmp(0), con(40))", 1, 2, set(0, "add(tmp(0), con(7))"), put("add(tmp(0), loadu8(load64(add(loc(1), con(8)))))"), store(1, "add(load64(add(loc(1), con(8))), con(2))", "tmp(0)")),
		ret("tmp(0)", call(-1, 1, "tmp(0)", "loc(0)"), exit("load8(add(loc(0), con(2)))")))
	writes := fn(2, objs(obj(4, 2)), branch("tmp(0)", 1, 2), ret("con(1)", put("load8(tmp(1))"), call(2, 1, "sub(tmp(0), con(1))", "tmp(1)"), put("tmp(2)")), ret("con(2)"))
	l := []api.Prog{
		prog(objs(obj(4, 9, 5, -6, 1<<33)), loop, writes),
		simple(jump(0, put("con(1)"))),
		simple(jump(1, get(0)), branch("tmp(0)", 1, 0, set(0, "sub(tmp(0), con(1))"), put("tmp(0)"))),
		simple(ret("con(0)", put("con(1)"), set(0, "load8(con(1))"))),
		prog(nil, fn(0, objs(obj(2, 2)), ret("con(0)", put("con(1)"), call(-1, 0)))),
		recursive(),
		prog(nil, fn(0, nil, ret("con(0)", get(0), get(0), get(0), call(-1, 1, "tmp(0)"))), recursive().Funcs[1]),
		prog(objs(obj(8, 1)), fn(0, nil, branch("ne(load64(glo(0)), con(0))", 0, 1, store(8, "glo(0)", "glo(0)"), put("con(4)")), ret("con(0)"))),
	}
	below := mix(424242)
	for range 40 {
		l = append(l, sample.Graph(below))
	}
	return slices.Clip(l)
}
