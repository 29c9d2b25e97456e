package model

import (
	"slices"

	"gantlet/api"
	"gantlet/checked"
	"gantlet/course"
)

// run is a program on its way.
type run struct {
	course.Course
	memory
	funcs []function
}

// begin tells a program ahead of its first call.
func begin(u api.Unit, in []int64, fuel int) *run {
	r := &run{Course: course.Begin(in, fuel), memory: emptyMemory()}
	for _, d := range u.Globals {
		place := api.Val{Obj: r.add(checked.Elements(d.Type))}
		for i, n := range d.Init {
			place.N = int64(i)
			r.set(place, converted(d.Type, number(n)))
		}
	}
	for _, f := range u.Funcs {
		r.funcs = append(r.funcs, functionOf(f))
	}
	return r
}

// main calls the function main, whose return ends the program.
func (r *run) main() {
	i := slices.IndexFunc(r.funcs, func(f function) bool { return f.Main })
	r.End(api.OExit, r.call(&r.funcs[i], nil).N)
}

// call calls a function with arguments of its parameters' types.
func (r *run) call(f *function, args []api.Val) api.Val {
	if !r.Enter(f.elements()) {
		return api.Val{}
	}
	c := call{run: r, f: f, first: r.next()}
	for i, n := range f.locals {
		place := api.Val{Obj: r.add(n)}
		if i < len(args) {
			r.set(place, args[i])
		}
	}
	v := c.body()
	r.drop(c.first)
	r.Leave()
	return v
}
