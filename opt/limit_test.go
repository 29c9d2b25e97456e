package opt_test

import (
	"fmt"
	"slices"
	"testing"

	"gantlet/api"
)

// many tells so many of what of tells.
func many[T any](n int, of func(i int) T) []T {
	var l []T
	for i := range n {
		l = append(l, of(i))
	}
	return l
}

func tmp(n int) string { return fmt.Sprint("tmp(", n, ")") }

// widest is a program of so many temporaries.
func widest(temps int, blocks ...api.Block) api.Prog {
	p := prog([]api.Obj{obj(4, 64), obj(8, 64)}, fn(0, []api.Obj{obj(8, 64), obj(4, 64)}, blocks...))
	p.Funcs[0].Temps = temps
	return p
}

// TestMostBlocks is of P10.1 and P10.2: as many blocks as there may be, that lead to each other in many
// ways.
func TestMostBlocks(t *testing.T) {
	const n = api.MaxBlocks
	last := ret("tmp(0)", put("tmp(1)"))
	for _, of := range []func(i int) api.Block{
		func(i int) api.Block { return jump(i + 1) },
		func(i int) api.Block { return jump((i*7 + 1) % n) },
		func(i int) api.Block { return jump(i+1, put("con(1)")) },
		func(i int) api.Block { return branch("tmp(0)", i+1, n-1, get(0)) },
		func(i int) api.Block { return branch("tmp(0)", i+1, (i*13+5)%n, get(0), put("tmp(0)")) },
		func(i int) api.Block { return branch(tmp(i), i+1, (i*13+5)%n) },
		func(i int) api.Block { return branch(tmp(i), i+1, n-1-i, get(i), set(0, tmp(n-1-i))) },
		func(i int) api.Block { return branch("tmp(999)", i+1, (i*13+5)%n, set(i, tmp(i+1)), get(999)) },
		func(i int) api.Block {
			return jump(i+1, store(4, fmt.Sprint("add(glo(0), con(", i%64*4, "))"), tmp(i)), get(i))
		},
		func(i int) api.Block { return ret(tmp(i)) },
		func(i int) api.Block { return branch("con(1)", (i*3+1)%n, i) },
	} {
		blocks := append(many(n-1, of), last)
		better(t, widest(n, blocks...), many(700, func(i int) int64 { return int64(i * i % 7) }))
	}
}

// TestMostSteps is of P10.1: as many steps as there may be, in one block.
func TestMostSteps(t *testing.T) {
	const n = api.MaxSteps
	for _, of := range []func(i int) api.Step{
		func(i int) api.Step { return get(i % 1000) },
		func(i int) api.Step { return put("con(5)") },
		func(i int) api.Step { return set(3, "add(tmp(3), con(1))") },
		func(i int) api.Step { return set(i%1000, tmp((i*7+3)%1000)) },
		func(i int) api.Step { return set(i%1000, "add("+tmp((i*7+3)%1000)+", "+tmp(i%1000)+")") },
		func(i int) api.Step { return store(4, []string{"glo(0)", "tmp(1)", "loc(1)"}[i%3], tmp(i%1000)) },
		func(i int) api.Step { return store(8, []string{"loc(0)", "glo(1)"}[i%2], fmt.Sprint("con(", i, ")")) },
	} {
		for _, ahead := range []int{0, 700} {
			steps := append(many(ahead, get), many(n-ahead, of)...)
			better(t, widest(1000, ret("add(tmp(1), tmp(999))", steps...)), []int64{7, 8, 9})
			better(t, widest(1000, branch("tmp(5)", 0, 1, steps...), ret("add(tmp(1), tmp(999))")), []int64{7, 8, 9, 1, 2, 3, 4})
		}
	}
}

// chain is a tree of so many nodes.
func chain(nodes int, last string) api.Tree {
	x := tr(last)
	for range nodes - 1 {
		x = api.Tree{Op: api.RLoad64, Kids: []api.Tree{x}}
	}
	return x
}

// TestMostNodes is of P10.1: as many nodes as there may be, with temporaries in place of which trees with
// more nodes might come.
func TestMostNodes(t *testing.T) {
	for _, place := range []string{"add(glo(0), con(4))", "add(loc(1), con(8))", "glo(0)", "mul(tmp(5), tmp(6))"} {
		for i, end := range []int{1, 2, 3, 4, 199, 200} {
			steps := []api.Step{get(5), set(1, place)}
			left := 8000 - size(tr(place)) - end - 7*i
			for ; left >= 6+200; left -= 6 {
				steps = append(steps, store(4, "tmp(1)", "mul(load32(tmp(1)), loadu32(tmp(1)))"))
			}
			for left > 0 {
				n := min(left, 150)
				steps = append(steps, api.Step{Op: api.GPut, To: -1, Args: []api.Tree{chain(n, "tmp(0)")}})
				left -= n
			}
			p := widest(10, api.Block{Steps: steps, End: api.EndReturn, Cond: chain(end, "tmp(1)")})
			better(t, p)
		}
	}
}

func size(x api.Tree) int {
	n := 1
	for _, k := range x.Kids {
		n += size(k)
	}
	return n
}

// TestFull is of P10.1: functions that have as many nodes as they may, with jumps to blocks that would
// come to stand in their places, with exits ahead of jumps, and with what would be filled into large trees.
func TestFull(t *testing.T) {
	full := func(room int) []api.Step {
		steps := many(39, func(i int) api.Step { return api.Step{Op: api.GPut, To: -1, Args: []api.Tree{large(200)}} })
		return append(steps, api.Step{Op: api.GPut, To: -1, Args: []api.Tree{large(200 - room)}})
	}
	in := []int64{3, 4, 5, 6}
	better(t, simple(branch("tmp(0)", 1, 2, append([]api.Step{get(0), get(1)}, full(4)...)...), jump(3, put("con(1)")), jump(3, put("con(2)")), ret("tmp(0)")), in)
	better(t, simple(branch("tmp(0)", 1, 2, append([]api.Step{get(0), get(1)}, full(3)...)...), jump(3, get(2)), jump(2, exit("con(2)")), ret("tmp(0)")), in)
	better(t, simple(jump(1, append([]api.Step{get(0), get(1)}, full(1)...)...), jump(1, exit("con(2)"))), in)
	better(t, simple(jump(1, append([]api.Step{get(0), get(1)}, full(1)...)...), jump(1, exit("tmp(0)"))), in)
	// 200 nodes, with one of which a tree of 2 would come
	big := api.Step{Op: api.GPut, To: -1, Args: []api.Tree{large(200)}}
	q := better(t, simple(ret("con(0)", get(2), get(1), set(0, "mul(tmp(2), tmp(1))"), big)), in)
	if len(q.Funcs[0].Blocks[0].Steps) != 4 {
		t.Errorf("%s", graphText(q.Funcs[0]))
	}
	// a value of 200 nodes, of which the lowest bits are stored
	wide := api.Step{Op: api.GStore, To: -1, Size: 1, Args: []api.Tree{tr("loc(0)"), large(200)}}
	better(t, prog(nil, fn(0, []api.Obj{obj(1, 1)}, ret("loadu8(loc(0))", get(0), get(1), wide, put("load8(loc(0))")))), in)
}

// TestGrowth is of P10.1: what many jumps lead to does not make a function large beyond measure.
func TestGrowth(t *testing.T) {
	long := api.Block{End: api.EndReturn, Cond: large(190)}
	blocks := append(many(900, func(i int) api.Block { return branch("tmp(0)", i+1, 901, get(0)) }), jump(902, get(1)), jump(902, get(0), get(1)), long)
	better(t, widest(20, blocks...), slices.Repeat([]int64{1}, 950), slices.Repeat([]int64{1, 0}, 20))
	for i := range 900 {
		blocks[i] = branch("tmp(0)", i+1, 901-i/2, get(0))
	}
	blocks = append(many(400, func(i int) api.Block { return branch("tmp(0)", 2*i+1, 2*i+2, get(0)) }), many(501, func(i int) api.Block { return jump(902, get(1)) })...)
	blocks = append(blocks, ret("con(1)"), long)
	q := better(t, widest(20, blocks...), slices.Repeat([]int64{1}, 50), slices.Repeat([]int64{0}, 50), slices.Repeat([]int64{1, 0}, 20))
	n := 0
	for _, b := range q.Funcs[0].Blocks {
		n += len(b.Steps)
	}
	if n > 1800 {
		t.Errorf("%d steps", n)
	}
}

// TestMostTemps is of P10.1: no temporaries are left for the elements of locals.
func TestMostTemps(t *testing.T) {
	steps := many(990, get)
	var puts []api.Step
	for i := range 64 {
		at := fmt.Sprint("add(loc(0), con(", 8*i, "))")
		steps = append(steps, store(8, at, tmp(i*7)))
		puts = append(puts, put("load64("+at+")"))
	}
	puts = append(puts, many(800, func(i int) api.Step { return put(tmp(i)) })...)
	for _, temps := range []int{990, 991, 1000} {
		better(t, widest(temps, jump(1, steps...), ret("con(1)", puts...)), many(990, func(i int) int64 { return int64(i) }))
	}
}

// TestFullOfSteps is of P10.1: functions that have as many steps as they may, with jumps to small blocks.
func TestFullOfSteps(t *testing.T) {
	for room := range 4 {
		steps := many(api.MaxSteps-7-room, func(i int) api.Step { return get(i%3 + 5) })
		p := simple(jump(1, steps...), branch("tmp(0)", 2, 3, get(0), get(1)), branch("tmp(1)", 1, 4, get(2), put("tmp(2)")), jump(1, put("con(1)")), jump(2, put("con(2)")), ret("con(1)", put("tmp(0)")))
		better(t, p, []int64{1}, many(api.MaxSteps+40, func(i int) int64 { return int64(i % 2) }))
	}
}
