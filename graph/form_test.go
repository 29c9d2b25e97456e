package graph_test

import (
	"fmt"
	"math"
	"reflect"
	"slices"
	"testing"

	"gantlet/api"
	"gantlet/graph"
	"gantlet/sample"
	"gantlet/tree"
)

// isTaken holds that a program may be, and is run.
func isTaken(t *testing.T, what string, p api.Prog) {
	t.Helper()
	if err := graph.Check(p); err != api.OK {
		t.Errorf("%s: Check: %d", what, err)
	}
	if o, err := graph.Run(p, nil, 100); err != api.OK || o.Kind == api.ONone {
		t.Errorf("%s: Run: %s, %d", what, show(o), err)
	}
}

// isRefused holds that a program may not be, and that nothing is told beside.
func isRefused(t *testing.T, what string, p api.Prog) {
	t.Helper()
	if err := graph.Check(p); err != api.ErrForm {
		t.Errorf("%s: Check: %d", what, err)
	}
	if o, err := graph.Run(p, nil, 100); err != api.ErrForm || show(o) != nothing {
		t.Errorf("%s: Run: %s, %d", what, show(o), err)
	}
}

// holds that a program is taken or refused.
func holds(t *testing.T, what string, p api.Prog, may bool) {
	t.Helper()
	if may {
		isTaken(t, what, p)
	} else {
		isRefused(t, what, p)
	}
}

var strange = []int{0, 1, 2, 3, 4, 5, 7, 8, 9, 16, 64, 65, -1, -2, -8, 256, 1<<32 + 1, 1<<32 + 8, math.MaxInt, math.MinInt, math.MinInt + 1}

// within tells whether n is from one number to another.
func within(n, from, to int) bool { return n >= from && n <= to }

// TestObjects is of P7.1: sizes, counts and values told, of globals and of locals, at each place.
func TestObjects(t *testing.T) {
	try := func(o api.Obj, may bool) {
		t.Helper()
		what := fmt.Sprintf("%d of %d, %d told", o.Count, o.Size, len(o.Init))
		ok := obj(8, 2, 1)
		b := ret("con(0)")
		for _, l := range [][]api.Obj{{o}, {o, ok}, {ok, ok, o}} {
			holds(t, what, prog(l, fn(0, nil, b)), may)
			holds(t, what, prog(nil, fn(0, l, b)), may)
			holds(t, what, prog(nil, fn(0, nil, b), fn(3, l, b)), may)
		}
	}
	for _, n := range append([]int{63, 66, 100}, strange...) {
		try(api.Obj{Size: n, Count: 3}, n == 1 || n == 2 || n == 4 || n == 8)
		for _, size := range []int{1, 2, 4, 8} {
			try(api.Obj{Size: size, Count: n}, within(n, 1, api.MaxLen))
		}
	}
	for count := 1; count <= api.MaxLen; count++ {
		for told := max(0, count-3); told <= count+3; told++ {
			try(api.Obj{Size: 4, Count: count, Init: make([]int64, told)}, told <= count)
		}
	}
	try(api.Obj{}, false)
	try(api.Obj{Size: 2, Count: 2, Init: []int64{}}, true)
	try(api.Obj{Size: 1, Count: 2, Init: []int64{least, most}}, true)
	try(api.Obj{Size: 2, Count: 0, Init: []int64{}}, false)
	try(api.Obj{Size: 2, Count: 64, Init: make([]int64, 1<<20)}, false)
}

// many is a list of so many, all the same.
func many[T any](n int, x T) []T {
	return slices.Repeat([]T{x}, n)
}

// TestCounts is of P7.1: how many there may be of each.
func TestCounts(t *testing.T) {
	ok := fn(0, nil, ret("con(0)"))
	for n := range 70 {
		holds(t, fmt.Sprint(n, " globals"), prog(many(n, obj(1, 1)), ok), n <= api.MaxGlobals)
		holds(t, fmt.Sprint(n, " functions"), prog(nil, many(n, ok)...), within(n, 1, api.MaxFuncs))
		holds(t, fmt.Sprint(n, " locals"), prog(nil, ok, fn(0, many(n, obj(8, 64)), ret("con(0)"))), n <= api.MaxLocals)
	}
	for _, n := range []int{0, 1, 2, 500, api.MaxBlocks - 1, api.MaxBlocks, api.MaxBlocks + 1, 2 * api.MaxBlocks, 1 << 16} {
		holds(t, fmt.Sprint(n, " blocks"), simple(many(n, ret("con(0)"))...), within(n, 1, api.MaxBlocks))
	}
	for _, n := range []int{0, 1, 2, api.MaxSteps - 1, api.MaxSteps, api.MaxSteps + 1, 2 * api.MaxSteps, 1 << 16} {
		all := many(n, get(3))
		may := n <= api.MaxSteps
		holds(t, fmt.Sprint(n, " steps"), simple(ret("con(0)", all...)), may)
		holds(t, fmt.Sprint(n, " steps"), prog(nil, ok, fn(2, nil, jump(1), ret("con(0)", all...))), may)
		holds(t, fmt.Sprint(n, " steps"), simple(jump(1, all[:n/3]...), ret("con(0)", all[n/3:n-n/3]...), ret("con(1)", all[n-n/3:]...)), may)
		// Each function has as many for itself.
		one := fn(0, nil, ret("con(0)", all...))
		holds(t, fmt.Sprint(n, " steps each"), prog(nil, one, one, one, one, one, one, one, one), may)
	}
}

// TestParamsAndTemps is of P7.1: how many of both there may be.
func TestParamsAndTemps(t *testing.T) {
	for _, params := range append([]int{6, 10}, strange...) {
		for _, temps := range append([]int{6, 10, api.MaxTemps - 1, api.MaxTemps, api.MaxTemps + 1, 1 << 40}, strange...) {
			g := api.Graph{Params: params, Temps: temps, Blocks: []api.Block{ret("con(0)")}}
			may := within(params, 0, api.MaxParams) && within(temps, params, api.MaxTemps)
			what := fmt.Sprint(params, " of ", temps)
			holds(t, what, prog(nil, fn(0, nil, ret("con(0)")), g), may)
			holds(t, what+" as Main", prog(nil, g), may && params == 0)
			p := prog(nil, g, fn(0, nil, ret("con(0)")), g)
			p.Main = 1
			holds(t, what+", twice", p, may)
		}
	}
}

// TestMainThatMayBe is of P7.1: Main is one of the functions, without parameters.
func TestMainThatMayBe(t *testing.T) {
	for count := 1; count <= api.MaxFuncs; count++ {
		for _, main := range append([]int{6, -7}, strange...) {
			p := prog(nil, many(count, fn(0, nil, ret("con(0)")))...)
			p.Main = main
			holds(t, fmt.Sprint(main, " of ", count), p, within(main, 0, count-1))
		}
		for params := range api.MaxParams + 1 {
			for main := range count {
				p := prog(nil, many(count, fn(0, nil, ret("con(0)")))...)
				p.Funcs[count-1].Params = params
				p.Main = main
				holds(t, fmt.Sprint(main, " of ", count, " with ", params), p, main < count-1 || params == 0)
			}
		}
	}
	isRefused(t, "nothing", api.Prog{})
	isRefused(t, "no functions", api.Prog{Funcs: []api.Graph{}, Globals: objs(obj(1, 1))})
	isRefused(t, "no blocks", prog(nil, api.Graph{}))
}

// stepKinds are steps that may be, of each op.
func stepKinds() []api.Step {
	return []api.Step{set(0, "con(1)"), set(19, "con(1)"), store(1, "con(1)", "con(2)"), store(8, "con(1)", "con(2)"), call(3, 0), call(-1, 0), call(3, 1, "con(1)", "con(2)"), call(-1, 1, "con(1)", "con(2)"), put("con(1)"), exit("con(1)"), get(0), get(19)}
}

// around puts steps into a program of two functions: alone, behind others, in a later block, in a later
// function; function 1 has two parameters.
func around(s ...api.Step) []api.Prog {
	two := fn(2, nil, ret("con(0)"))
	behind := append([]api.Step{put("con(1)"), get(1)}, s...)
	return []api.Prog{
		prog(nil, fn(0, nil, ret("con(0)", s...)), two),
		prog(nil, fn(0, nil, ret("con(0)", behind...)), two),
		prog(nil, fn(0, nil, jump(1), ret("con(0)"), jump(0, s...)), two),
		prog(nil, fn(0, nil, ret("con(0)")), fn(2, nil, ret("con(0)", s...))),
		prog(nil, fn(0, nil, ret("con(0)")), two, fn(4, nil, ret("con(0)"), ret("con(0)", behind...))),
	}
}

func holdsAround(t *testing.T, s api.Step, may bool) {
	t.Helper()
	for _, p := range around(s) {
		holds(t, fmt.Sprintf("%+v", s), p, may)
	}
}

// TestStepsThatMayBe is of P7.1: each field of a step, by its op.
func TestStepsThatMayBe(t *testing.T) {
	for _, s := range stepKinds() {
		holdsAround(t, s, true)
		for _, n := range append([]int{18, 19, 20, 21, 6}, strange...) {
			x := s
			x.To = n
			named := s.Op == api.GSet || s.Op == api.GGet || s.Op == api.GCall
			holdsAround(t, x, named && within(n, 0, 19) || n == -1 && s.Op != api.GSet && s.Op != api.GGet)
			x = s
			x.Size = n
			holdsAround(t, x, s.Op == api.GStore && (n == 1 || n == 2 || n == 4 || n == 8) || s.Op != api.GStore && n == 0)
			x = s
			x.Fn = n
			holdsAround(t, x, n == s.Fn)
			x = s
			x.Op = n
			if n != s.Op && (n < api.GSet || n > api.GExit) {
				holdsAround(t, x, false)
			}
		}
		for n := range 7 {
			x := s
			x.Args = trees(many(n, "con(1)"))
			holdsAround(t, x, n == len(s.Args))
			x.Args = append(make([]api.Tree, 0, 9), x.Args...)
			holdsAround(t, x, n == len(s.Args))
		}
		for i := range s.Args {
			for _, wrong := range []api.Tree{{}, {Op: api.RTmp, N: -1}, {Op: api.RAdd}, {Op: api.RZext32 + 1}, {Op: api.RExt8, N: 1, Kids: trees([]string{"con(1)"})}} {
				x := s
				x.Args = slices.Clone(s.Args)
				x.Args[i] = wrong
				holdsAround(t, x, false)
			}
		}
	}
	holdsAround(t, api.Step{}, false)
	holdsAround(t, api.Step{To: -1}, false)
}

// TestCallsThatMayBe is of P7.1: calls of functions that there are, with as many arguments as
// they have parameters.
func TestCallsThatMayBe(t *testing.T) {
	for params := range api.MaxParams + 1 {
		for args := range 7 {
			for _, callee := range append([]int{6}, strange...) {
				main := fn(0, nil, ret("con(0)", call(-1, callee, many(args, "con(1)")...)))
				p := prog(nil, main, fn(params, nil, ret("con(0)")), fn(2, nil, ret("con(0)")))
				want := map[int]int{0: 0, 1: params, 2: 2}
				n, is := want[callee]
				holds(t, fmt.Sprint(args, " to ", callee, " of ", params), p, is && n == args)
			}
		}
	}
}

// TestEndsThatMayBe is of P7.1: each field of a block's end, by its kind.
func TestEndsThatMayBe(t *testing.T) {
	try := func(b api.Block, may bool) {
		t.Helper()
		what := fmt.Sprintf("%+v", b)
		ok := ret("con(0)")
		holds(t, what, simple(b, ok, ok), may)
		holds(t, what, simple(ok, ok, b), may)
		holds(t, what, prog(nil, fn(0, nil, ok), fn(1, nil, ok, b, ok)), may)
	}
	for _, n := range append([]int{-3, 6, 1000}, strange...) {
		there := within(n, 0, 2)
		try(jump(n), there)
		try(branch("con(1)", n, 1), there)
		try(branch("con(1)", 1, n), there)
		try(branch("con(1)", n, n), there)
		try(api.Block{End: api.EndJump, Next: 1, Else: n}, n == 0)
		try(api.Block{End: api.EndReturn, Cond: tr("con(1)"), Next: n}, n == 0)
		try(api.Block{End: api.EndReturn, Cond: tr("con(1)"), Else: n}, n == 0)
		if n < api.EndJump || n > api.EndReturn {
			try(api.Block{End: n}, false)
			try(api.Block{End: n, Cond: tr("con(1)")}, false)
			try(api.Block{End: n, Cond: tr("con(1)"), Next: 1, Else: 1}, false)
		}
	}
	for _, c := range []api.Tree{tr("con(0)"), tr("con(1)"), tr("add(con(1), tmp(0))"), {}, {Kids: []api.Tree{}}, {N: 1}, {Kids: []api.Tree{{}}}, {Op: -1}, {Op: api.RTmp, N: -1}, {Op: api.RAdd}} {
		may := tree.Check(c) == api.OK
		try(api.Block{End: api.EndReturn, Cond: c}, may)
		try(api.Block{End: api.EndBranch, Cond: c, Next: 2}, may)
		try(api.Block{End: api.EndJump, Cond: c}, c.Op == 0 && c.N == 0 && len(c.Kids) == 0)
	}
	try(api.Block{}, false)
}

// everywhere puts a tree to each place where one may stand.
func everywhere(s string, globals, locals []api.Obj, temps int) []api.Prog {
	var l []api.Prog
	for _, x := range []string{s, "add(con(1), " + s + ")", "ext8(load8(sub(" + s + ", con(1))))"} {
		for _, b := range []api.Block{ret(x), branch(x, 0, 0), jump(0, set(0, x)), jump(0, store(1, x, "con(1)")), jump(0, store(1, "con(1)", x)), jump(0, put(x)), jump(0, exit(x)), jump(0, call(-1, 1, x, "con(1)")), jump(0, call(-1, 1, "con(1)", x)), jump(0, get(0), put("con(1)"), put(x))} {
			g := fn(0, locals, b)
			g.Temps = temps
			two := fn(2, nil, ret("con(0)"))
			l = append(l, prog(globals, g, two), prog(globals, fn(0, nil, ret("con(0)")), two, g))
		}
	}
	return l
}

// TestNames is of P7.1: trees of temporaries, locals and globals that there are, and of some that
// there are not.
func TestNames(t *testing.T) {
	for _, count := range []int{0, 1, 2, 5, 16} {
		for _, n := range []int64{0, 1, 2, 4, 5, 6, 15, 16, 17, 19, 20, 23, 24, 1 << 31, 1 << 32, 1<<32 + 1, most} {
			some, other := many(count, obj(1, 1)), many(16, obj(1, 1))
			may := n < int64(count)
			for _, p := range everywhere("loc("+itoa(n)+")", other, some, 20) {
				holds(t, fmt.Sprint("local ", n, " of ", count), p, may)
			}
			for _, p := range everywhere("glo("+itoa(n)+")", some, other, 20) {
				holds(t, fmt.Sprint("global ", n, " of ", count), p, may)
			}
			if count > 0 {
				for _, p := range everywhere("tmp("+itoa(n)+")", other, other, count) {
					holds(t, fmt.Sprint("temporary ", n, " of ", count), p, may)
				}
			}
		}
	}
}

// sized is a text of a tree of so many nodes.
func sized(nodes int) string {
	s := "con(1)"
	for range (nodes - 1) / 2 {
		s = "add(" + s + ", con(2))"
	}
	return deepened(s, (nodes-1)%2)
}

// TestNodes is of P7.1: at most MaxTree nodes a tree, 8000 all of a function.
func TestNodes(t *testing.T) {
	large := tr(sized(api.MaxTree))
	one := api.Step{Op: api.GPut, To: -1, Args: []api.Tree{large}}
	two := api.Step{Op: api.GStore, To: -1, Size: 1, Args: []api.Tree{large, large}}
	for _, more := range []int{1, 2, 3, 50, 199, api.MaxTree} {
		s := sized(more)
		for _, c := range []struct {
			blocks []api.Block
			nodes  int
		}{
			{[]api.Block{ret(s, many(39, one)...)}, 7800 + more},
			{[]api.Block{ret(s, many(40, one)...)}, 8000 + more},
			{[]api.Block{ret(s, append(many(39, one), put(sized(api.MaxTree-more)))...)}, 8000},
			{[]api.Block{ret(s, append(many(39, one), put(sized(api.MaxTree-more+1)))...)}, 8001},
			{[]api.Block{ret(s, append(many(19, two), one, put(sized(api.MaxTree-more)))...)}, 8000},
			{[]api.Block{ret(s, append(many(19, two), one, put(sized(api.MaxTree-more+1)))...)}, 8001},
			{[]api.Block{jump(1, many(20, one)...), branch(sized(api.MaxTree), 0, 1, many(18, one)...), ret(s), ret(sized(api.MaxTree - more))}, 8000},
			{[]api.Block{jump(1, many(20, one)...), branch(sized(api.MaxTree), 0, 1, many(18, one)...), ret(s), ret(sized(api.MaxTree - more + 1))}, 8001},
			{[]api.Block{jump(1, many(20, one)...), jump(0, many(20, one)...), ret(s)}, 8000 + more},
		} {
			if more == 200 && c.nodes == 8000 {
				continue // no tree has no node
			}
			what := fmt.Sprint(c.nodes, " nodes, ", more)
			holds(t, what, simple(c.blocks...), c.nodes <= 8000)
			g := fn(0, nil, c.blocks...)
			holds(t, what+" each", prog(nil, g, g, g, g), c.nodes <= 8000)
			holds(t, what+" in one", prog(nil, fn(0, nil, ret("con(0)")), g), c.nodes <= 8000)
		}
	}
	beyond := of(api.RExt8, large)
	for _, p := range around(api.Step{Op: api.GPut, To: -1, Args: []api.Tree{beyond}}) {
		isRefused(t, "a tree that is too large", p)
	}
}

// TestShared is of R1: little memory that seems to be much: lists share it.
func TestShared(t *testing.T) {
	x := tr("con(1)")
	for range 60 {
		x = api.Tree{Op: api.RAdd, Kids: []api.Tree{x, x}}
	}
	for _, p := range around(api.Step{Op: api.GPut, To: -1, Args: []api.Tree{x}}) {
		isRefused(t, "a tree of which much is shared", p)
	}
	isRefused(t, "a cond of which much is shared", simple(api.Block{End: api.EndReturn, Cond: x}))
	in := make([]api.Tree, 2)
	in[0], in[1] = api.Tree{Op: api.RAdd, Kids: in}, tr("con(1)")
	isRefused(t, "a tree within itself", simple(api.Block{End: api.EndReturn, Cond: in[0]}))
	deep := tr("con(1)")
	for range 65000 {
		deep = of(api.RExt8, deep)
	}
	isRefused(t, "a deep tree", simple(api.Block{End: api.EndReturn, Cond: deep}))
	b := ret("con(0)", many(1<<20, put("con(1)"))...)
	blocks := many(1<<20, b)
	isRefused(t, "steps without an end", simple(blocks...))
	isRefused(t, "steps without an end", prog(many(1<<20, obj(1, 1)), many(1<<20, fn(0, nil, blocks...))...))
	isRefused(t, "steps of 1000 blocks", simple(blocks[:1000]...))
}

// changes changes each number and each list of what v is, one at a time.
func changes(v reflect.Value, try func()) {
	old := reflect.New(v.Type()).Elem()
	old.Set(v)
	as := func(x reflect.Value) {
		v.Set(x)
		try()
		v.Set(old)
	}
	switch v.Kind() {
	case reflect.Int, reflect.Int64:
		for _, n := range []int64{old.Int() + 1, old.Int() - 1, 0, 1, -1, 8, 1 << 40} {
			if n != old.Int() {
				as(reflect.ValueOf(n).Convert(v.Type()))
			}
		}
	case reflect.Struct:
		for i := range v.NumField() {
			changes(v.Field(i), try)
		}
	case reflect.Slice:
		as(reflect.Append(old.Slice3(0, old.Len(), old.Len()), reflect.Zero(v.Type().Elem())))
		if n := old.Len(); n > 0 {
			as(old.Slice(0, n-1))
			as(old.Slice(1, n))
			as(reflect.Append(old.Slice3(0, n, n), old.Index(n-1)))
		}
		for i := range old.Len() {
			changes(old.Index(i), try)
		}
	}
}

// mayBe tells whether a program may be, by a list of what may not.
func mayBe(p api.Prog) bool {
	no := len(p.Globals) > 16 || len(p.Funcs) == 0 || len(p.Funcs) > 8 || p.Main < 0 || p.Main >= len(p.Funcs) || p.Funcs[p.Main].Params != 0
	badObj := func(o api.Obj) bool {
		return !slices.Contains([]int{1, 2, 4, 8}, o.Size) || o.Count < 1 || o.Count > 64 || len(o.Init) > o.Count
	}
	no = no || slices.ContainsFunc(p.Globals, badObj)
	for _, g := range p.Funcs {
		nodes, steps := 0, 0
		var badTree func(x api.Tree) bool
		badTree = func(x api.Tree) bool {
			nodes++
			size := map[int]int{api.RTmp: g.Temps, api.RLoc: len(g.Locals), api.RGlo: len(p.Globals)}
			n, named := size[x.Op]
			return tree.Check(x) != api.OK || named && x.N >= int64(n) || slices.ContainsFunc(x.Kids, badTree)
		}
		badTemp := func(i int) bool { return i < 0 || i >= g.Temps }
		badBlock := func(i int) bool { return i < 0 || i >= len(g.Blocks) }
		no = no || g.Params < 0 || g.Params > 4 || g.Params > g.Temps || g.Temps > 1000 || len(g.Locals) > 24 || len(g.Blocks) == 0 || len(g.Blocks) > 1000
		no = no || slices.ContainsFunc(g.Locals, badObj)
		for _, b := range g.Blocks {
			steps += len(b.Steps)
			for _, s := range b.Steps {
				no = no || slices.ContainsFunc(s.Args, badTree)
				bare := api.Step{Op: s.Op, To: -1}
				args := 1
				switch s.Op {
				case api.GSet, api.GGet:
					bare.To = s.To
					no = no || badTemp(s.To)
					args = api.GGet - s.Op
					if s.Op == api.GSet {
						args = 1
					}
				case api.GStore:
					bare.Size, args = s.Size, 2
					no = no || !slices.Contains([]int{1, 2, 4, 8}, s.Size)
				case api.GCall:
					bare.Fn, bare.To = s.Fn, s.To
					if no = no || s.To != -1 && badTemp(s.To) || s.Fn < 0 || s.Fn >= len(p.Funcs); !no {
						args = p.Funcs[s.Fn].Params
					}
				case api.GPut, api.GExit:
				default:
					no = true
				}
				bare.Args = s.Args
				no = no || len(s.Args) != args || !reflect.DeepEqual(bare, s)
			}
			switch b.End {
			case api.EndJump:
				no = no || badBlock(b.Next) || b.Else != 0 || !reflect.DeepEqual(b.Cond, api.Tree{})
			case api.EndBranch:
				no = no || badBlock(b.Next) || badBlock(b.Else) || badTree(b.Cond)
			case api.EndReturn:
				no = no || b.Next != 0 || b.Else != 0 || badTree(b.Cond)
			default:
				no = true
			}
		}
		no = no || steps > 2000 || nodes > 8000
	}
	return !no
}

// TestChanged is of P7.1: programs of which one thing is changed are taken just where they may be.
func TestChanged(t *testing.T) {
	right, wrong, tried := 0, 0, 0
	below := mix(5550123)
	l := []api.Prog{samples()[0], samples()[4], recursive(), sample.Graph(below), sample.Graph(below)}
	for i, p := range l {
		if !mayBe(p) {
			t.Fatal("a sample may not be")
		}
		before := whole(p)
		changes(reflect.ValueOf(&p).Elem(), func() {
			t.Helper()
			may := mayBe(p)
			if may {
				right++
			} else {
				wrong++
			}
			tried++
			holds(t, fmt.Sprint("sample ", i, ", change ", tried), p, may)
		})
		if whole(p) != before {
			t.Fatal("a sample stays changed")
		}
	}
	if right < 1000 || wrong < 1500 {
		t.Errorf("%d, %d", right, wrong)
	}
}
