package graph

import (
	"slices"

	"gantlet/api"
	"gantlet/tree"
)

const (
	maxNodes = 8000 // of all trees of a function
	none     = -1   // To of what tells nothing
)

// Each of these tells whether something may be.

func isProgram(p api.Prog) bool {
	if len(p.Funcs) > api.MaxFuncs || !isBelow(p.Main, len(p.Funcs)) || p.Funcs[p.Main].Params != 0 {
		return false
	}
	if !areObjects(p.Globals, api.MaxGlobals) {
		return false
	}
	for i := range p.Funcs {
		f := former{prog: &p, graph: &p.Funcs[i], room: maxNodes}
		if !f.isGraph() {
			return false
		}
	}
	return true
}

func areObjects(l []api.Obj, most int) bool {
	return len(l) <= most && !slices.ContainsFunc(l, func(o api.Obj) bool { return !isObject(o) })
}

func isObject(o api.Obj) bool {
	return isSize(o.Size) && o.Count >= 1 && o.Count <= api.MaxLen && len(o.Init) <= o.Count
}

func isSize(n int) bool {
	return n == 1 || n == 2 || n == 4 || n == 8
}

// isBelow tells whether i is an index of so many.
func isBelow(i, count int) bool {
	return i >= 0 && i < count
}

// former goes through a function of a program.
type former struct {
	prog  *api.Prog
	graph *api.Graph
	room  int // how many nodes may come yet
}

// isGraph asks how many of all there are ahead of what they are: lists may share memory, so that
// there is no end to the way through all that seems to be there.
func (f *former) isGraph() bool {
	g := f.graph
	if g.Params < 0 || g.Params > api.MaxParams || g.Params > g.Temps || g.Temps > api.MaxTemps {
		return false
	}
	if len(g.Blocks) < 1 || len(g.Blocks) > api.MaxBlocks || countSteps(g.Blocks) > api.MaxSteps {
		return false
	}
	if !areObjects(g.Locals, api.MaxLocals) {
		return false
	}
	for i := range g.Blocks {
		if !f.isBlock(&g.Blocks[i]) {
			return false
		}
	}
	return true
}

func countSteps(l []api.Block) int {
	n := 0
	for i := range l {
		n += len(l[i].Steps)
	}
	return n
}

func (f *former) isBlock(b *api.Block) bool {
	for i := range b.Steps {
		if !f.isStep(&b.Steps[i]) {
			return false
		}
	}
	return f.isEnd(b)
}

func (f *former) isStep(s *api.Step) bool {
	switch s.Op {
	case api.GSet:
		return f.hasTemp(s.To) && s.Size == 0 && s.Fn == 0 && f.areTrees(s.Args, 1)
	case api.GStore:
		return s.To == none && isSize(s.Size) && s.Fn == 0 && f.areTrees(s.Args, 2)
	case api.GCall:
		return (s.To == none || f.hasTemp(s.To)) && s.Size == 0 && isBelow(s.Fn, len(f.prog.Funcs)) &&
			f.areTrees(s.Args, f.prog.Funcs[s.Fn].Params)
	case api.GPut, api.GExit:
		return s.To == none && s.Size == 0 && s.Fn == 0 && f.areTrees(s.Args, 1)
	case api.GGet:
		return f.hasTemp(s.To) && s.Size == 0 && s.Fn == 0 && f.areTrees(s.Args, 0)
	}
	return false
}

func (f *former) isEnd(b *api.Block) bool {
	switch b.End {
	case api.EndJump:
		return isZero(&b.Cond) && f.hasBlock(b.Next) && b.Else == 0
	case api.EndBranch:
		return f.isTree(&b.Cond) && f.hasBlock(b.Next) && f.hasBlock(b.Else)
	case api.EndReturn:
		return f.isTree(&b.Cond) && b.Next == 0 && b.Else == 0
	}
	return false
}

func isZero(t *api.Tree) bool {
	return t.Op == api.RNone && t.N == 0 && len(t.Kids) == 0
}

func (f *former) hasTemp(i int) bool {
	return isBelow(i, f.graph.Temps)
}

func (f *former) hasBlock(i int) bool {
	return isBelow(i, len(f.graph.Blocks))
}

func (f *former) areTrees(l []api.Tree, count int) bool {
	if len(l) != count {
		return false
	}
	for i := range l {
		if !f.isTree(&l[i]) {
			return false
		}
	}
	return true
}

// isTree takes the tree's nodes from the room.
func (f *former) isTree(t *api.Tree) bool {
	n, err := tree.Size(*t)
	if err != api.OK || n > f.room {
		return false
	}
	f.room -= n
	return f.hasAll(t)
}

// hasAll tells whether all that a tree names is there. A tree that may be names nothing by a
// number below 0.
func (f *former) hasAll(t *api.Tree) bool {
	switch t.Op {
	case api.RTmp:
		return t.N < int64(f.graph.Temps)
	case api.RLoc:
		return t.N < int64(len(f.graph.Locals))
	case api.RGlo:
		return t.N < int64(len(f.prog.Globals))
	}
	for i := range t.Kids {
		if !f.hasAll(&t.Kids[i]) {
			return false
		}
	}
	return true
}
