package opt_test

import (
	"fmt"
	"slices"
	"strings"
	"testing"

	"gantlet/api"
	"gantlet/graph"
	"gantlet/opt"
	"gantlet/tree"
)

// tr is the tree of a text.
func tr(s string) api.Tree {
	t, err := tree.Parse(s)
	if err != api.OK {
		panic("no tree: " + s)
	}
	return t
}

func trees(l []string) []api.Tree {
	var of []api.Tree
	for _, s := range l {
		of = append(of, tr(s))
	}
	return of
}

// Steps.

func set(to int, t string) api.Step {
	return api.Step{Op: api.GSet, To: to, Args: trees([]string{t})}
}

func store(size int, at, v string) api.Step {
	return api.Step{Op: api.GStore, To: -1, Size: size, Args: trees([]string{at, v})}
}

func call(to, fn int, args ...string) api.Step {
	return api.Step{Op: api.GCall, To: to, Fn: fn, Args: trees(args)}
}

func put(t string) api.Step {
	return api.Step{Op: api.GPut, To: -1, Args: trees([]string{t})}
}

func exit(t string) api.Step {
	return api.Step{Op: api.GExit, To: -1, Args: trees([]string{t})}
}

func get(to int) api.Step { return api.Step{Op: api.GGet, To: to} }

// Blocks.

func jump(next int, steps ...api.Step) api.Block {
	return api.Block{Steps: steps, End: api.EndJump, Next: next}
}

func branch(cond string, next, otherwise int, steps ...api.Step) api.Block {
	return api.Block{Steps: steps, End: api.EndBranch, Cond: tr(cond), Next: next, Else: otherwise}
}

func ret(t string, steps ...api.Step) api.Block {
	return api.Block{Steps: steps, End: api.EndReturn, Cond: tr(t)}
}

// Objects, functions and programs.

func obj(size, count int, init ...int64) api.Obj {
	return api.Obj{Size: size, Count: count, Init: init}
}

// fn is a function of 20 temporaries.
func fn(params int, locals []api.Obj, blocks ...api.Block) api.Graph {
	return api.Graph{Params: params, Temps: 20, Locals: locals, Blocks: blocks}
}

// prog is a program whose first function is its Main.
func prog(globals []api.Obj, funcs ...api.Graph) api.Prog {
	return api.Prog{Globals: globals, Funcs: funcs}
}

// simple is a program of nothing but blocks.
func simple(blocks ...api.Block) api.Prog {
	return prog(nil, fn(0, nil, blocks...))
}

// most objects: one of each size, and a longer one.
func objs() []api.Obj {
	return []api.Obj{obj(1, 2, 200), obj(2, 2), obj(4, 3, 5, -6), obj(8, 2), obj(8, 2, 1<<40)}
}

// Texts.

func words(op int) string { return strings.Fields("none set store call put get exit")[op] }

func treeText(t api.Tree) string {
	s, _ := tree.Text(t)
	return s
}

func stepText(s api.Step) string {
	text := words(s.Op)
	if s.Op == api.GStore {
		text += fmt.Sprint(s.Size)
	}
	if s.To >= 0 {
		text += fmt.Sprint(" ", s.To)
	}
	if s.Op == api.GCall {
		text += fmt.Sprint(" f", s.Fn)
	}
	for _, t := range s.Args {
		text += " " + treeText(t)
	}
	return text + "; "
}

func blockText(b api.Block) string {
	text := ""
	for _, s := range b.Steps {
		text += stepText(s)
	}
	switch b.End {
	case api.EndJump:
		return text + fmt.Sprint("jump ", b.Next)
	case api.EndBranch:
		return text + "branch " + treeText(b.Cond) + fmt.Sprint(" ", b.Next, " ", b.Else)
	}
	return text + "return " + treeText(b.Cond)
}

// graphText is a function's blocks.
func graphText(g api.Graph) string {
	var l []string
	for _, b := range g.Blocks {
		l = append(l, blockText(b))
	}
	return strings.Join(l, " / ")
}

// whole tells all of a program; a nil list and an empty one are one there.
func whole(p api.Prog) string { return fmt.Sprintf("%+v", p) }

func show(o api.Outcome) string {
	return fmt.Sprint(strings.Fields("none exit fuel stuck over fault")[o.Kind], " ", o.Code, " ", o.Out, " in ", o.Steps)
}

func ran(t *testing.T, p api.Prog, in []int64, fuel int) api.Outcome {
	t.Helper()
	o, err := graph.Run(p, in, fuel)
	if err != api.OK {
		t.Fatalf("Run: %d", err)
	}
	return o
}

// What is held of all programs.

// made makes a program better, and holds of it what hangs on nothing that comes in.
func made(t *testing.T, p api.Prog) api.Prog {
	t.Helper()
	if graph.Check(p) != api.OK {
		t.Fatalf("may not be: %s", whole(p))
	}
	q, err := opt.Opt(p)
	if err != api.OK || graph.Check(q) != api.OK {
		t.Fatalf("%d, %d of %s", err, graph.Check(q), whole(p))
	}
	if q.Main != p.Main || fmt.Sprint(q.Globals) != fmt.Sprint(p.Globals) || len(q.Funcs) != len(p.Funcs) {
		t.Fatalf("%s; should be of %s", whole(q), whole(p))
	}
	for i, g := range q.Funcs {
		if g.Params != p.Funcs[i].Params {
			t.Errorf("function %d has %d parameters, not %d", i, g.Params, p.Funcs[i].Params)
		}
		neat(t, g)
	}
	return q
}

// neat holds that no branch is on an RCon, and that each block is reached.
func neat(t *testing.T, g api.Graph) {
	t.Helper()
	reached := make([]bool, len(g.Blocks))
	var reach func(i int)
	reach = func(i int) {
		if reached[i] {
			return
		}
		reached[i] = true
		if b := g.Blocks[i]; b.End != api.EndReturn {
			reach(b.Next)
			if b.End == api.EndBranch {
				reach(b.Else)
			}
		}
	}
	reach(0)
	if i := slices.Index(reached, false); i >= 0 {
		t.Errorf("block %d is never reached: %s", i, graphText(g))
	}
	for _, b := range g.Blocks {
		if b.End == api.EndBranch && b.Cond.Op == api.RCon {
			t.Errorf("a branch on a number: %s", graphText(g))
		}
	}
}

// alike holds that q does what p does in so much fuel, and tells what that is.
func alike(t *testing.T, p, q api.Prog, in []int64, fuel int) (want, got api.Outcome) {
	t.Helper()
	want = ran(t, p, in, fuel)
	switch want.Kind {
	case api.OExit:
		got = ran(t, q, in, want.Steps)
		if got.Kind != api.OExit || got.Code != want.Code || !slices.Equal(got.Out, want.Out) || got.Steps > want.Steps {
			t.Errorf("%v: %s; should be %s\nof %s\nis %s", in, show(got), show(want), whole(p), whole(q))
		}
	case api.OFuel, api.OOver:
		// T2 asks that what goes on for ever still does, and what uses up the stack; of what would be
		// stuck later nothing is said.
		got = ran(t, q, in, fuel)
		goesOn := len(got.Out) >= len(want.Out) && slices.Equal(got.Out[:len(want.Out)], want.Out)
		if got.Kind == want.Kind && !goesOn || want.Kind == api.OOver && got.Kind != api.OOver {
			t.Errorf("%v: %s; should be %s\nof %s\nis %s", in, show(got), show(want), whole(p), whole(q))
		}
	}
	return want, got
}

const plenty = 5000

// better makes a program better, once and twice, and holds that both do what it does, whatever of that
// comes in.
func better(t *testing.T, p api.Prog, ins ...[]int64) api.Prog {
	t.Helper()
	before := whole(p)
	q := made(t, p)
	twice := made(t, q)
	if whole(p) != before {
		t.Fatalf("is changed: %s", before)
	}
	for _, in := range append(ins, nil) {
		alike(t, p, q, in, plenty)
		alike(t, p, twice, in, plenty)
		alike(t, q, twice, in, plenty)
	}
	return q
}

// becomes holds what becomes of a program's first function, and that the program does what it did.
func becomes(t *testing.T, p api.Prog, want string, ins ...[]int64) {
	t.Helper()
	if got := graphText(better(t, p, ins...).Funcs[0]); got != want {
		t.Errorf("%s: %s; should be %s", graphText(p.Funcs[0]), got, want)
	}
}

// ends holds how a program ends, and that it still does once it is better.
func ends(t *testing.T, p api.Prog, want string, ins ...int64) api.Prog {
	t.Helper()
	o := ran(t, p, ins, plenty)
	if got := fmt.Sprint(strings.Fields("none exit fuel stuck over")[o.Kind], " ", o.Code, " ", o.Out); got != want {
		t.Errorf("%s; should be %s", got, want)
	}
	return better(t, p, ins)
}
