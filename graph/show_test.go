package graph_test

import (
	"math"
	"slices"
	"strconv"
	"strings"
	"testing"

	"gantlet/api"
	"gantlet/graph"
	"gantlet/tree"
)

const (
	least = math.MinInt64
	most  = math.MaxInt64
)

// tr is the tree of a text.
func tr(s string) api.Tree {
	t, err := tree.Parse(s)
	if err != api.OK {
		panic("no tree: " + s)
	}
	return t
}

func trees(l []string) []api.Tree {
	var of []api.Tree
	for _, s := range l {
		of = append(of, tr(s))
	}
	return of
}

// Steps.

func set(to int, t string) api.Step {
	return api.Step{Op: api.GSet, To: to, Args: trees([]string{t})}
}

func store(size int, at, v string) api.Step {
	return api.Step{Op: api.GStore, To: -1, Size: size, Args: trees([]string{at, v})}
}

func call(to, fn int, args ...string) api.Step {
	return api.Step{Op: api.GCall, To: to, Fn: fn, Args: trees(args)}
}

func put(t string) api.Step {
	return api.Step{Op: api.GPut, To: -1, Args: trees([]string{t})}
}

func get(to int) api.Step {
	return api.Step{Op: api.GGet, To: to}
}

func exit(t string) api.Step {
	return api.Step{Op: api.GExit, To: -1, Args: trees([]string{t})}
}

// Blocks.

func jump(next int, steps ...api.Step) api.Block {
	return api.Block{Steps: steps, End: api.EndJump, Next: next}
}

func branch(cond string, next, otherwise int, steps ...api.Step) api.Block {
	return api.Block{Steps: steps, End: api.EndBranch, Cond: tr(cond), Next: next, Else: otherwise}
}

func ret(t string, steps ...api.Step) api.Block {
	return api.Block{Steps: steps, End: api.EndReturn, Cond: tr(t)}
}

// Objects, functions and programs.

func obj(size, count int, init ...int64) api.Obj {
	return api.Obj{Size: size, Count: count, Init: init}
}

func objs(l ...api.Obj) []api.Obj { return l }

// fn is a function of 20 temporaries.
func fn(params int, locals []api.Obj, blocks ...api.Block) api.Graph {
	return api.Graph{Params: params, Temps: 20, Locals: locals, Blocks: blocks}
}

// prog is a program whose first function is its Main.
func prog(globals []api.Obj, funcs ...api.Graph) api.Prog {
	return api.Prog{Globals: globals, Funcs: funcs}
}

// simple is a program of nothing but blocks.
func simple(blocks ...api.Block) api.Prog {
	return prog(nil, fn(0, nil, blocks...))
}

var outcomes = strings.Fields("none exit fuel stuck over fault")

func numbers(l []int64) string {
	var s []string
	for _, n := range l {
		s = append(s, strconv.FormatInt(n, 10))
	}
	return strings.Join(s, " ")
}

// show tells all of an outcome: Kind and Code, what was put out, steps and calls.
func show(o api.Outcome) string {
	return outcomes[o.Kind] + " " + strconv.FormatInt(o.Code, 10) + " [" + numbers(o.Out) + "] " + strconv.Itoa(o.Steps) + "/" + strconv.Itoa(o.Deep)
}

// What is told of what is stuck, and beside an error.
const (
	stuck   = "stuck 0 [] 0/0"
	nothing = "none 0 [] 0/0"
)

// ran tells how a program that may be ends.
func ran(t *testing.T, p api.Prog, in []int64, fuel int) api.Outcome {
	t.Helper()
	if err := graph.Check(p); err != api.OK {
		t.Fatalf("Check: error %d", err)
	}
	o, err := graph.Run(p, in, fuel)
	if err != api.OK {
		t.Fatalf("Run: error %d", err)
	}
	return o
}

// ends holds how a program ends: all of its outcome.
func ends(t *testing.T, p api.Prog, want string, in ...int64) {
	t.Helper()
	if got := show(ran(t, p, in, 10000)); got != want {
		t.Errorf("%s; should be %s", got, want)
	}
}

// puts holds that a program ends with 0, and what it has put out.
func puts(t *testing.T, p api.Prog, want string, in ...int64) {
	t.Helper()
	o := ran(t, p, in, 10000)
	if got := numbers(o.Out); o.Kind != api.OExit || o.Code != 0 || got != want {
		t.Errorf("%s; should be exit 0 [%s]", show(o), want)
	}
}

// isStuck holds that the last step of the first function's first block is stuck, and that none
// ahead of it is.
func isStuck(t *testing.T, what string, p api.Prog) {
	t.Helper()
	if got := show(ran(t, p, nil, 10000)); got != stuck {
		t.Errorf("%s: %s; should be stuck", what, got)
	}
	main := p.Funcs[0]
	main.Blocks = slices.Clone(main.Blocks)
	b := &main.Blocks[0]
	b.Steps = slices.Insert(slices.Clone(b.Steps), len(b.Steps)-1, exit("con(7)"))
	p.Funcs = slices.Concat([]api.Graph{main}, p.Funcs[1:])
	if o := ran(t, p, nil, 10000); o.Kind != api.OExit || o.Code != 7 {
		t.Errorf("%s: %s ahead of it; should be exit 7", what, show(o))
	}
}

// same tells whether two outcomes are the same.
func same(a, b api.Outcome) bool {
	return show(a) == show(b)
}

// isBeginning tells whether a list begins with all of another one.
func isBeginning(l, of []int64) bool {
	return len(l) <= len(of) && slices.Equal(l, of[:len(l)])
}

// mix tells numbers from 0 to below n, without any order that is to be seen, the same each time.
func mix(seed uint64) func(n int) int {
	return func(n int) int {
		seed ^= seed << 13
		seed ^= seed >> 7
		seed ^= seed << 17
		return int(seed >> 11 % uint64(n))
	}
}

// edges are numbers at which widths, signs and counts of shifts turn.
var edges = []int64{
	0, 1, 2, 3, 7, 8, 9, 31, 32, 33, 62, 63, 64, 65, 127, 128, 255, 256, 32767, 32768, 65535, 65536,
	math.MaxInt32, math.MaxInt32 + 1, math.MaxUint32, math.MaxUint32 + 1, most - 1, most,
	-1, -2, -7, -8, -63, -64, -65, -128, -129, -256, -32768, -32769, -65536, math.MinInt32, math.MinInt32 - 1, least + 1, least,
}

func itoa(n int64) string { return strconv.FormatInt(n, 10) }

func con(n int64) string { return "con(" + itoa(n) + ")" }

// Words of ops, by tree.Text's.

var (
	pairs  = strings.Fields("add sub mul div divu rem remu and or xor shl shr sar eq ne lt ltu le leu")
	loads  = strings.Fields("load8 load16 load32 load64 loadu8 loadu16 loadu32")
	single = strings.Fields("ext8 ext16 ext32 zext8 zext16 zext32")
)
