package model

import (
	"slices"

	"gantlet/api"
)

// maxCalls is how many there may be at the same time.
const maxCalls = 64

// run is a program on its way. Once it has ended, what was under way goes on to its own end,
// but of that nothing is seen: no step is counted, nothing put out, and no other end told.
type run struct {
	memory
	funcs []function
	in    []int64
	fuel  int
	calls int
	seen  api.Outcome
}

// begin tells a program ahead of its first call.
func begin(u api.Unit, in []int64, fuel int) *run {
	r := &run{memory: emptyMemory(), in: in, fuel: fuel}
	for _, d := range u.Globals {
		place := api.Val{Obj: r.add(elements(d.Type))}
		for i, n := range d.Init {
			place.N = int64(i)
			r.set(place, converted(d.Type, number(n)))
		}
	}
	for _, f := range u.Funcs {
		r.funcs = append(r.funcs, flat(f))
	}
	return r
}

// main calls the function main, whose return ends the program.
func (r *run) main() {
	i := slices.IndexFunc(r.funcs, func(f function) bool { return f.main })
	r.end(api.OExit, r.call(&r.funcs[i], nil).N)
}

func (r *run) outcome() api.Outcome {
	if r.seen.Kind == api.OStuck {
		return api.Outcome{Kind: api.OStuck}
	}
	return r.seen
}

func (r *run) ended() bool {
	return r.seen.Kind != api.ONone
}

func (r *run) end(kind int, code int64) {
	if !r.ended() {
		r.seen.Kind, r.seen.Code = kind, code
	}
}

// require is stuck where something does not hold.
func (r *run) require(holds bool) {
	if !holds {
		r.end(api.OStuck, 0)
	}
}

// count counts steps ahead of what they do, and tells whether that may be done.
func (r *run) count(steps int) bool {
	if r.ended() {
		return false
	}
	if steps > r.fuel-r.seen.Steps {
		r.seen.Steps = r.fuel
		r.end(api.OFuel, 0)
		return false
	}
	r.seen.Steps += steps
	return true
}

func (r *run) put(n int64) {
	if !r.ended() {
		r.seen.Out = append(r.seen.Out, n)
	}
}

// get tells the next of what comes in, 0 behind that.
func (r *run) get() int64 {
	if len(r.in) == 0 {
		return 0
	}
	n := r.in[0]
	r.in = r.in[1:]
	return n
}

// call calls a function with arguments of its parameters' types.
func (r *run) call(f *function, args []api.Val) api.Val {
	if r.ended() {
		return api.Val{}
	}
	if r.calls == maxCalls {
		r.end(api.OOver, 0)
		return api.Val{}
	}
	r.calls++
	r.seen.Deep = max(r.seen.Deep, r.calls)
	if !r.count(f.elements()) {
		return api.Val{}
	}
	c := call{run: r, f: f, first: r.next()}
	for i, n := range f.locals {
		place := api.Val{Obj: r.add(n)}
		if i < len(args) {
			r.set(place, args[i])
		}
	}
	v := c.body()
	r.drop(c.first)
	r.calls--
	return v
}
