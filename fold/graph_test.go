package fold_test

import (
	"fmt"
	"testing"

	"gantlet/api"
	"gantlet/check"
	"gantlet/graph"
	"gantlet/lower"
	"gantlet/parse"
	"gantlet/sample"
)

// Globals of a scene's program beyond those of the scene: where places are kept that other calls tell.
const (
	keepsOther = globals + iota
	keepsGone
	keepsBoth
)

func set(to int, x api.Tree) api.Step {
	return api.Step{Op: api.GSet, To: to, Args: []api.Tree{x}}
}

func store(size int64, at, x api.Tree) api.Step {
	return api.Step{Op: api.GStore, To: -1, Size: int(size), Args: []api.Tree{at, x}}
}

func call(fn int) api.Step { return api.Step{Op: api.GCall, To: -1, Fn: fn} }

func end(x api.Tree, steps ...api.Step) []api.Block {
	return []api.Block{{Steps: steps, End: api.EndReturn, Cond: x}}
}

func moved(at api.Tree, n int64) api.Tree { return of(api.RAdd, at, con(n)) }

func objOf(o object) api.Obj { return api.Obj{Size: int(o.element), Count: int(o.bytes / o.element)} }

// base tells where an object of a scene begins, in its program; one that is no more has none.
func base(i int) api.Tree {
	switch {
	case i <= globals:
		return glo(int64(i - 1))
	case i < other:
		return loc(int64(i - 1 - globals))
	}
	return of(api.RLoad64, glo(keepsOther))
}

// tree tells a value of a scene, in its program.
func valueTree(v api.Val) api.Tree {
	switch {
	case v.Obj == 0:
		return con(v.N)
	case v.Obj < gone:
		return moved(base(v.Obj), v.N)
	}
	return of(api.RLoad64, moved(glo(int64(keepsGone+v.Obj-gone)), 8*v.N))
}

// keeps tells steps that store each place of an object, which is local i, in a global.
func keeps(o object, i int64, in int64) []api.Step {
	var l []api.Step
	for n := int64(0); n <= o.bytes; n++ {
		l = append(l, store(8, moved(glo(in), 8*n), moved(loc(i), n)))
	}
	return l
}

// program tells one that comes to be in a scene, and does steps there.
func (s *scene) program(steps ...api.Step) api.Prog {
	var setting []api.Step
	for i, v := range s.temps[:3] {
		setting = append(setting, set(i, valueTree(v)))
	}
	for i, o := range s.objects[:other] {
		for n := int64(0); n < o.bytes; n += o.element {
			setting = append(setting, store(o.element, moved(base(i+1), n), valueTree(s.cells[placeAt(i+1, n)])))
		}
	}
	var l []api.Obj
	for _, o := range s.objects {
		l = append(l, objOf(o))
	}
	kept := api.Obj{Size: 8, Count: 17}
	return api.Prog{
		Globals: append(append([]api.Obj{}, l[:globals]...), kept, kept, kept),
		Funcs: []api.Graph{
			{Locals: l[other-1 : other], Blocks: end(con(1), store(8, glo(keepsOther), loc(0)), call(2), call(1))},
			{Temps: 4, Locals: l[globals : globals+locals], Blocks: end(con(0), append(setting, steps...)...)},
			{Locals: l[gone-1:], Blocks: end(con(0), append(keeps(s.objects[gone-1], 0, keepsGone), keeps(s.objects[gone], 1, keepsBoth)...)...)},
		},
	}
}

// seen holds that the graph of a tree tells a value.
func (s *scene) seen(t *testing.T, x api.Tree, v api.Val, ok bool) {
	t.Helper()
	shown, want := tmp(3), v.N
	switch {
	case v.Obj >= gone:
		shown, want = of(api.REq, tmp(3), con(0)), 0
	case v.Obj > 0:
		shown = of(api.RSub, tmp(3), base(v.Obj))
	}
	p := s.program(set(3, x), api.Step{Op: api.GPut, To: -1, Args: []api.Tree{shown}})
	o, err := graph.Run(p, nil, 10000)
	if err != api.OK {
		t.Fatalf("%d", err)
	}
	isStuck := o.Kind == api.OStuck
	if ok && (o.Kind != api.OExit || len(o.Out) != 1 || o.Out[0] != want) || !ok && !isStuck {
		t.Errorf("%s: %+v; should be %v, %v (temporaries %v)", text(x), o, v, ok, s.temps)
	}
}

// TestInGraphs is of P9.1: what the scenes of these tests tell of a tree is what graph.Run does, and so
// does what becomes of the tree.
func TestInGraphs(t *testing.T) {
	below := mix(41)
	told := 0
	for range 6000 {
		s, x := madeScene(below), made(below, 1+below(9))
		v, ok := s.told(x)
		s.seen(t, x, v, ok)
		if ok {
			s.seen(t, folded(t, x), v, ok)
			told++
		}
	}
	if told < 2000 {
		t.Errorf("only %d tell something", told)
	}
}

// allFolded tells a program with each tree folded.
func allFolded(t *testing.T, p api.Prog) api.Prog {
	t.Helper()
	for i := range p.Funcs {
		for j := range p.Funcs[i].Blocks {
			b := &p.Funcs[i].Blocks[j]
			for _, s := range b.Steps {
				for k, x := range s.Args {
					s.Args[k] = folded(t, x)
				}
			}
			if b.End != api.EndJump {
				b.Cond = folded(t, b.Cond)
			}
		}
	}
	return p
}

// lowered tells the program of a text, if it is one.
func lowered(s string) (api.Prog, bool) {
	u, f := parse.Parse(s)
	if f.Err == 0 {
		u, f = check.Check(u)
	}
	if f.Err != 0 {
		return api.Prog{}, false
	}
	p, err := lower.Lower(u)
	return p, err == api.OK
}

// TestPrograms is of P9.1: programs do the same, step by step, with all their trees folded.
func TestPrograms(t *testing.T) {
	t.Parallel()
	texts := sample.Texts()
	for i := range uint64(250) {
		seed := (i + 1) * 0x9e3779b97f4a7c15
		texts = append(texts, sample.Made(seed), sample.Typed(seed))
	}
	ended := 0
	for i, s := range texts {
		p, ok := lowered(s)
		if !ok {
			continue
		}
		in := []int64{int64(i % 7), -1, int64(i)}
		want, _ := graph.Run(p, in, 20000)
		got, err := graph.Run(allFolded(t, p), in, 20000)
		if want.Kind != api.OStuck && (err != api.OK || fmt.Sprint(got) != fmt.Sprint(want)) {
			t.Errorf("%q: %v, %d; should be %v", s, got, err, want)
		}
		if want.Kind == api.OExit {
			ended++
		}
	}
	if ended < 200 {
		t.Errorf("only %d end", ended)
	}
}
