package opt

import (
	"slices"

	"gantlet/api"
)

const (
	entry   = 0  // the block that a call begins with
	nowhere = -1 // To of what sets no temporary
)

func con(n int64) api.Tree {
	return api.Tree{Op: api.RCon, N: n}
}

func leaf(op, n int) api.Tree {
	return api.Tree{Op: op, N: int64(n)}
}

func isTemp(t api.Tree, n int) bool {
	return t.Op == api.RTmp && t.N == int64(n)
}

// size tells how many nodes a tree has.
func size(t api.Tree) int {
	return 1 + sizes(t.Kids)
}

func sizes(l []api.Tree) int {
	n := 0
	for _, t := range l {
		n += size(t)
	}
	return n
}

// treesOf tells all trees of a block.
func treesOf(b api.Block) []api.Tree {
	var l []api.Tree
	for _, s := range b.Steps {
		l = append(l, s.Args...)
	}
	if b.End != api.EndJump {
		l = append(l, b.Cond)
	}
	return l
}

// nodes tells how many nodes all trees of a block have.
func nodes(b api.Block) int {
	return sizes(treesOf(b))
}

// every shows each node of trees.
func every(l []api.Tree, to func(api.Tree)) {
	for _, t := range l {
		to(t)
		every(t.Kids, to)
	}
}

// count tells how often trees ask for a temporary.
func count(l []api.Tree, temp int) int {
	n := 0
	for _, t := range l {
		if isTemp(t, temp) {
			n++
		}
		n += count(t.Kids, temp)
	}
	return n
}

// mapped tells trees anew, with each node as of tells it, kids ahead of what is made of them.
func mapped(l []api.Tree, of func(api.Tree) api.Tree) []api.Tree {
	var own []api.Tree
	for _, t := range l {
		t.Kids = mapped(t.Kids, of)
		own = append(own, of(t))
	}
	return own
}

func mappedTree(t api.Tree, of func(api.Tree) api.Tree) api.Tree {
	t.Kids = mapped(t.Kids, of)
	return of(t)
}

// mappedBlock tells a block with all of its trees mapped.
func mappedBlock(b api.Block, of func(api.Tree) api.Tree) api.Block {
	b.Steps = slices.Clone(b.Steps)
	for i := range b.Steps {
		b.Steps[i].Args = mapped(b.Steps[i].Args, of)
	}
	if b.End == api.EndJump {
		b.Cond = api.Tree{}
	} else {
		b.Cond = mappedTree(b.Cond, of)
	}
	return b
}

// filled tells trees with x where they ask for a temporary.
func filled(l []api.Tree, temp int, x api.Tree) []api.Tree {
	return mapped(l, func(t api.Tree) api.Tree {
		if isTemp(t, temp) {
			return x
		}
		return t
	})
}

// again tells a program in new memory.
func again(p api.Prog) api.Prog {
	p.Globals = allAgain(p.Globals)
	p.Funcs = slices.Clone(p.Funcs)
	for i := range p.Funcs {
		g := &p.Funcs[i]
		g.Locals = allAgain(g.Locals)
		g.Blocks = slices.Clone(g.Blocks)
		for j, b := range g.Blocks {
			g.Blocks[j] = mappedBlock(b, func(t api.Tree) api.Tree { return t })
		}
	}
	return p
}

func allAgain(l []api.Obj) []api.Obj {
	own := slices.Clone(l)
	for i := range own {
		own[i].Init = slices.Clone(own[i].Init)
	}
	return own
}
