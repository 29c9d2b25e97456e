package graph

import (
	"gantlet/api"
	"gantlet/course"
)

// arguments are those of a call, and of each other step; behind the last one they are 0.
type arguments [api.MaxParams]api.Val

// run is a program on its way.
type run struct {
	course.Course
	memory
	funcs []api.Graph
}

// begin tells a program ahead of its first call.
func begin(p api.Prog, in []int64, fuel int) *run {
	r := &run{Course: course.Begin(in, fuel), memory: emptyMemory(), funcs: p.Funcs}
	for _, o := range p.Globals {
		r.add(o)
	}
	return r
}

// main calls a function, whose return ends the program.
func (r *run) main(fn int) {
	r.exit(r.call(fn, arguments{}))
}

// call calls a function, and tells what it returns.
func (r *run) call(fn int, args arguments) api.Val {
	g := &r.funcs[fn]
	if !r.Enter(elements(g.Locals)) {
		return api.Val{}
	}
	c := call{run: r, graph: g, first: r.last + 1, temps: make([]api.Val, g.Temps)}
	copy(c.temps, args[:g.Params])
	for _, o := range g.Locals {
		r.add(o)
	}
	v := c.body()
	for i := range g.Locals {
		r.drop(c.first + i)
	}
	r.Leave()
	return v
}

// elements tells how many all objects have together.
func elements(l []api.Obj) int {
	n := 0
	for _, o := range l {
		n += o.Count
	}
	return n
}

// exit ends the program with a value, which must be a number.
func (r *run) exit(v api.Val) {
	r.Require(!isPlace(v))
	r.End(api.OExit, v.N)
}

// put puts a value out, which must be a number.
func (r *run) put(v api.Val) {
	r.Require(!isPlace(v))
	r.Put(v.N)
}
