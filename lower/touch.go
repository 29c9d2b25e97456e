package lower

import "gantlet/api"

// touch is a set of what is read, or may be changed: bit 1 << n stands for the parameter or local n
// that is a temporary.
type touch uint32

const (
	memory touch = 1 << api.MaxLocals // all of it
	world  touch = memory << 1        // what is put out, what comes in, whether it goes on
)

// touched tells what an expression may change.
func (f *maker) touched(e api.Expr) touch {
	var all touch
	switch e.Op {
	case api.EAssign, api.EPreInc, api.EPreDec, api.EPostInc, api.EPostDec:
		all = f.touchedAt(e.Kids[0])
	case api.ECall:
		all = world
		if e.N >= 0 {
			all |= memory
		}
	}
	for _, k := range e.Kids {
		all |= f.touched(k)
	}
	return all
}

// touchedAt tells what changes where a value is stored in a place.
func (f *maker) touchedAt(e api.Expr) touch {
	if n := f.register(e); n != none {
		return 1 << n
	}
	return memory
}

// register tells the temporary that a place is; none, if it is in memory.
func (f *maker) register(e api.Expr) int {
	if e.Op != api.EName || e.N < 0 {
		return none
	}
	if _, there := f.slots[int(e.N)]; there {
		return none
	}
	return int(e.N)
}

// read tells what a tree's value hangs on. Temporaries behind those of locals are set once on each
// way, just ahead of where they are told.
func (f *maker) read(t api.Tree) touch {
	var all touch
	switch {
	case t.Op == api.RTmp && t.N < int64(len(f.row.Locals)):
		all = 1 << t.N
	case t.Op >= api.RLoad8 && t.Op <= api.RLoadU32:
		all = memory
	}
	for _, k := range t.Kids {
		all |= f.read(k)
	}
	return all
}

// hold tells a value that stays what it is now, whatever of that changes.
func (f *maker) hold(t api.Tree, changes touch) api.Tree {
	if f.read(t)&changes == 0 {
		return t
	}
	return f.keep(t)
}
