package opt_test

import (
	"fmt"
	"math"
	"reflect"
	"slices"
	"testing"

	"gantlet/api"
	"gantlet/graph"
	"gantlet/opt"
	"gantlet/sample"
)

// isRefused holds that a program may not be, and that the zero one is told beside.
func isRefused(t *testing.T, what string, p api.Prog) {
	t.Helper()
	if q, err := opt.Opt(p); err != api.ErrForm || q.Globals != nil || q.Funcs != nil || q.Main != 0 {
		t.Errorf("%s: %s, %d", what, whole(q), err)
	}
}

// large is a tree of so many nodes.
func large(nodes int) api.Tree {
	t := tr("tmp(0)")
	for range (nodes - 1) / 2 {
		t = api.Tree{Op: api.RAdd, Kids: []api.Tree{t, tr("tmp(1)")}}
	}
	if nodes%2 == 0 {
		t = api.Tree{Op: api.RExt8, Kids: []api.Tree{t}}
	}
	return t
}

// TestMayNotBe is of P10.1: each way in which a program may not be.
func TestMayNotBe(t *testing.T) {
	for what, turn := range map[string]func(p *api.Prog){
		"no functions": func(p *api.Prog) { p.Funcs = nil }, "Main": func(p *api.Prog) { p.Main = 2 }, "Main below 0": func(p *api.Prog) { p.Main = -1 }, "parameters of Main": func(p *api.Prog) { p.Main = 1 },
		"functions": func(p *api.Prog) { p.Funcs = slices.Repeat(p.Funcs, 5) }, "globals": func(p *api.Prog) { p.Globals = slices.Repeat(p.Globals, api.MaxGlobals+1) }, "size": func(p *api.Prog) { p.Globals[0].Size = 3 }, "count": func(p *api.Prog) { p.Globals[0].Count = 0 }, "long": func(p *api.Prog) { p.Globals[0].Count = api.MaxLen + 1 }, "told": func(p *api.Prog) { p.Globals[0].Init = make([]int64, 5) },
		"locals": func(p *api.Prog) { p.Funcs[0].Locals = slices.Repeat(p.Globals, api.MaxLocals+1) }, "a local": func(p *api.Prog) { p.Funcs[1].Locals = []api.Obj{{}} },
		"parameters": func(p *api.Prog) { p.Funcs[1].Params = 5 }, "no temporaries": func(p *api.Prog) { p.Funcs[1].Temps = 1 }, "temporaries": func(p *api.Prog) { p.Funcs[0].Temps = api.MaxTemps + 1 },
		"no blocks": func(p *api.Prog) { p.Funcs[1].Blocks = nil }, "blocks": func(p *api.Prog) { p.Funcs[1].Blocks = slices.Repeat(p.Funcs[1].Blocks, api.MaxBlocks+1) },
		"steps": func(p *api.Prog) { p.Funcs[1].Blocks[0].Steps = slices.Repeat([]api.Step{get(0)}, api.MaxSteps+1) },
		"nodes": func(p *api.Prog) {
			p.Funcs[1].Blocks[0].Steps = slices.Repeat([]api.Step{{Op: api.GPut, To: -1, Args: []api.Tree{large(api.MaxTree)}}}, 40)
		},
		"a tree":  func(p *api.Prog) { p.Funcs[1].Blocks[0].Cond = large(api.MaxTree + 1) },
		"no tree": func(p *api.Prog) { p.Funcs[1].Blocks[0].Cond = api.Tree{} }, "no such op": func(p *api.Prog) { p.Funcs[1].Blocks[0].Cond.Op = 99 }, "an op below 0": func(p *api.Prog) { p.Funcs[1].Blocks[0].Cond.Op = math.MinInt },
		"a temporary": func(p *api.Prog) { p.Funcs[1].Blocks[0].Cond = tr("tmp(20)") }, "a local that is not": func(p *api.Prog) { p.Funcs[1].Blocks[0].Cond = tr("loc(0)") }, "a global that is not": func(p *api.Prog) { p.Funcs[1].Blocks[0].Cond = tr("glo(1)") },
		"no end": func(p *api.Prog) { p.Funcs[1].Blocks[0].End = 0 }, "no such end": func(p *api.Prog) { p.Funcs[1].Blocks[0].End = 4 }, "a return with Next": func(p *api.Prog) { p.Funcs[1].Blocks[0].Next = 1 }, "a return with Else": func(p *api.Prog) { p.Funcs[1].Blocks[0].Else = 1 },
		"Next": func(p *api.Prog) { p.Funcs[1].Blocks[0] = jump(1) }, "Next below 0": func(p *api.Prog) { p.Funcs[1].Blocks[0] = jump(-1) }, "Else": func(p *api.Prog) { p.Funcs[1].Blocks[0] = branch("con(1)", 0, 1) }, "a jump with a tree": func(p *api.Prog) { p.Funcs[1].Blocks[0] = api.Block{End: api.EndJump, Cond: tr("con(1)")} },
		"no step": func(p *api.Prog) { p.Funcs[1].Blocks[0].Steps[0] = api.Step{} }, "no such step": func(p *api.Prog) { p.Funcs[1].Blocks[0].Steps[0].Op = 7 }, "arguments": func(p *api.Prog) { p.Funcs[1].Blocks[0].Steps[0].Args = nil }, "To": func(p *api.Prog) { p.Funcs[1].Blocks[0].Steps[0] = set(20, "con(1)") }, "a size": func(p *api.Prog) { p.Funcs[1].Blocks[0].Steps[0].Size = 8 }, "a function": func(p *api.Prog) { p.Funcs[1].Blocks[0].Steps[0].Fn = 1 },
		"a store's size": func(p *api.Prog) { p.Funcs[1].Blocks[0].Steps[0] = store(3, "glo(0)", "con(1)") }, "a call of none": func(p *api.Prog) { p.Funcs[1].Blocks[0].Steps[0] = call(-1, 2) }, "a call's arguments": func(p *api.Prog) { p.Funcs[1].Blocks[0].Steps[0] = call(-1, 1, "con(1)") },
	} {
		for _, isCalled := range []bool{false, true} {
			p := prog([]api.Obj{obj(4, 4, 1)}, fn(0, nil, ret("con(0)", put("con(1)"))), fn(2, nil, ret("tmp(0)", put("tmp(1)"))))
			if isCalled {
				p.Funcs[0].Blocks[0].Steps[0] = call(-1, 1, "con(1)", "con(2)")
			}
			better(t, p)
			turn(&p)
			isRefused(t, what, p)
		}
	}
	isRefused(t, "nothing", api.Prog{})
}

// TestShared is of R1: little memory that seems to be much: lists share it.
func TestShared(t *testing.T) {
	x := tr("con(1)")
	for range 60 {
		x = api.Tree{Op: api.RAdd, Kids: []api.Tree{x, x}}
	}
	isRefused(t, "a tree of which much is shared", simple(ret("con(1)", api.Step{Op: api.GPut, To: -1, Args: []api.Tree{x}})))
	in := make([]api.Tree, 2)
	in[0], in[1] = api.Tree{Op: api.RAdd, Kids: in}, tr("con(1)")
	isRefused(t, "a tree within itself", simple(api.Block{End: api.EndReturn, Cond: in[0]}))
	blocks := slices.Repeat([]api.Block{ret("con(0)", slices.Repeat([]api.Step{put("con(1)")}, 1<<20)...)}, 1<<20)
	isRefused(t, "steps without an end", simple(blocks...))
	one := ret("con(0)", put("add(tmp(0), load32(glo(0)))"), get(0))
	g := fn(0, nil, slices.Repeat([]api.Block{one}, 5)...)
	better(t, prog([]api.Obj{obj(4, 1)}, g, g, g))
}

// changes changes each number and each list of what v is, one at a time.
func changes(v reflect.Value, try func()) {
	old := reflect.New(v.Type()).Elem()
	old.Set(v)
	as := func(x reflect.Value) {
		v.Set(x)
		try()
		v.Set(old)
	}
	switch v.Kind() {
	case reflect.Int, reflect.Int64:
		for _, n := range []int64{old.Int() + 1, old.Int() - 1, 0, 1, -1, 8, 1 << 40} {
			if n != old.Int() {
				as(reflect.ValueOf(n).Convert(v.Type()))
			}
		}
	case reflect.Struct:
		for i := range v.NumField() {
			changes(v.Field(i), try)
		}
	case reflect.Slice:
		as(reflect.Append(old.Slice3(0, old.Len(), old.Len()), reflect.Zero(v.Type().Elem())))
		if n := old.Len(); n > 0 {
			as(old.Slice(0, n-1))
			as(old.Slice(1, n))
			as(reflect.Append(old.Slice3(0, n, n), old.Index(n-1)))
		}
		for i := range old.Len() {
			changes(old.Index(i), try)
		}
	}
}

// TestChanged is of P10.1: programs of which one thing is changed are refused where they may not be, and
// do what they did where they may.
func TestChanged(t *testing.T) {
	right, wrong := 0, 0
	for seed := range uint64(3) {
		p := sample.Tangle(sample.Mix(seed + 71))
		changes(reflect.ValueOf(&p).Elem(), func() {
			if graph.Check(p) != api.OK {
				wrong++
				isRefused(t, fmt.Sprint("change ", wrong), p)
				return
			}
			if right++; right%4 == 0 {
				better(t, p, []int64{3, 1, 2})
			}
		})
	}
	if right < 1000 || wrong < 1000 {
		t.Errorf("%d, %d", right, wrong)
	}
}
