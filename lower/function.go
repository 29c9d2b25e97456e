package lower

import (
	"gantlet/api"
	"gantlet/checked"
)

// few is up to how many elements are wiped, and cases are tried, one by one.
const few = 4

// maker makes a function. Its parameters and locals have the first temporaries, whose numbers are
// theirs; those of which there may be pointers, and arrays, are in memory instead.
type maker struct {
	builder
	row   checked.Row
	funcs []api.Func
	slots map[int]int // of what is in memory: which object it is
	leads []int       // of each move, and of the end: the block that begins there; the entry: none does
	graph api.Graph
}

// lowered tells a function as a graph.
func lowered(row checked.Row, funcs []api.Func) api.Graph {
	f := maker{builder: builder{at: none}, row: row, funcs: funcs, slots: map[int]int{}}
	f.graph.Params = len(row.Params)
	f.graph.Temps = len(row.Locals)
	f.settle()
	f.begin(f.block())
	f.enter()
	f.lead()
	for i, m := range row.Moves {
		f.arrive(i)
		f.follow(m, i+1)
	}
	f.arrive(len(row.Moves))
	f.give(con(0))
	f.graph.Blocks = f.built()
	return f.graph
}

// settle finds out which parameters and locals are in memory.
func (f *maker) settle() {
	pointed := map[int]int{}
	for _, m := range f.row.Moves {
		countPointed(m.Expr, pointed)
	}
	for i, t := range f.row.Locals {
		if t.Len > 0 || pointed[i] > 0 {
			f.slots[i] = len(f.graph.Locals)
			f.graph.Locals = append(f.graph.Locals, object(t))
		}
	}
}

// countPointed counts how often pointers are made to each local itself.
func countPointed(e api.Expr, pointed map[int]int) {
	if e.Op == api.EAddr && e.Kids[0].Op == api.EName {
		pointed[int(e.Kids[0].N)]++
	}
	for _, k := range e.Kids {
		countPointed(k, pointed)
	}
}

// enter brings the parameters that are in memory there.
func (f *maker) enter() {
	for i, t := range f.row.Params {
		if slot, there := f.slots[i]; there {
			f.store(checked.Bytes(t), leaf(api.RLoc, slot), leaf(api.RTmp, i))
		}
	}
}

// lead tells a block to each move that others than the one ahead of it lead to.
func (f *maker) lead() {
	f.leads = make([]int, len(f.row.Moves)+1)
	for i, m := range f.row.Moves {
		switch m.Does {
		case checked.DoUnless, checked.DoIf:
			f.leadTo(i + 1)
			f.leadTo(f.row.Marks[m.To])
		case checked.DoJump:
			f.leadTo(f.row.Marks[m.To])
		case checked.DoChoose:
			f.leadTo(f.others(m))
			for _, c := range f.cases(m) {
				f.leadTo(c.move)
			}
		}
	}
}

func (f *maker) leadTo(move int) {
	if f.leads[move] == entry {
		f.leads[move] = f.block()
	}
}

// arrive begins the block that begins with a move, if there is one.
func (f *maker) arrive(move int) {
	if f.leads[move] != entry {
		f.begin(f.leads[move])
	}
}

// follow makes what a move does; next is the one behind it.
func (f *maker) follow(m checked.Move, next int) {
	switch m.Does {
	case checked.DoTell:
		f.do(m.Expr)
	case checked.DoMake:
		f.remake(m)
	case checked.DoJump:
		f.jump(f.target(m))
	case checked.DoUnless:
		f.branch(m.Expr, f.leads[next], f.target(m))
	case checked.DoIf:
		f.branch(m.Expr, f.target(m), f.leads[next])
	case checked.DoChoose:
		f.choose(m)
	case checked.DoReturn:
		f.give(f.valueOr0(m.Expr, f.row.Ret))
	}
}

// target tells the block that a move leads to.
func (f *maker) target(m checked.Move) int {
	return f.leads[f.row.Marks[m.To]]
}

// valueOr0 tells an expression's value as one of a type; 0, where there is none.
func (f *maker) valueOr0(e api.Expr, t api.Type) api.Tree {
	if e.Op == api.ENone {
		return con(0)
	}
	return f.as(t, e)
}

// remake makes a local anew.
func (f *maker) remake(m checked.Move) {
	v := f.valueOr0(m.Expr, m.Type)
	slot, there := f.slots[m.Local]
	switch {
	case !there:
		f.set(m.Local, v)
	case m.Type.Len > 0:
		f.wipe(leaf(api.RLoc, slot), object(m.Type))
	default:
		f.store(checked.Bytes(m.Type), leaf(api.RLoc, slot), v)
	}
}

// wipe makes all elements of an object 0.
func (f *maker) wipe(at api.Tree, o api.Obj) {
	if o.Count <= few {
		for i := range o.Count {
			f.store(o.Size, pair(api.RAdd, at, con(int64(i*o.Size))), con(0))
		}
		return
	}
	left := f.temp()
	body, end := f.block(), f.block()
	f.set(left, con(int64(o.Count*o.Size)))
	f.begin(body)
	f.set(left, pair(api.RSub, leaf(api.RTmp, left), con(int64(o.Size))))
	f.store(o.Size, pair(api.RAdd, at, leaf(api.RTmp, left)), con(0))
	f.fork(leaf(api.RTmp, left), body, end)
	f.begin(end)
}

// temp tells the number of a new temporary.
func (f *maker) temp() int {
	f.graph.Temps++
	return f.graph.Temps - 1
}

// set sets a temporary.
func (f *maker) set(to int, v api.Tree) {
	f.step(api.Step{Op: api.GSet, To: to, Args: []api.Tree{v}})
}

func (f *maker) store(size int, at, v api.Tree) {
	f.step(api.Step{Op: api.GStore, To: none, Size: size, Args: []api.Tree{at, v}})
}

// keep tells a value once and for all.
func (f *maker) keep(v api.Tree) api.Tree {
	to := f.temp()
	f.set(to, v)
	return leaf(api.RTmp, to)
}
