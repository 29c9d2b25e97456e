package opt

import (
	"slices"

	"gantlet/api"
)

// dense tells a function without the temporaries and the locals that it does not name.
func dense(g api.Graph) api.Graph {
	var asked temps
	var named locals
	for i := range g.Params {
		asked.add(i)
	}
	note := func(t api.Tree) {
		switch t.Op {
		case api.RTmp:
			asked.add(int(t.N))
		case api.RLoc:
			named |= 1 << t.N
		}
	}
	for _, b := range g.Blocks {
		every(treesOf(b), note)
		for _, s := range b.Steps {
			if s.To != nowhere {
				asked.add(s.To)
			}
		}
	}
	return renumbered(g, asked, named)
}

func renumbered(g api.Graph, asked temps, named locals) api.Graph {
	var temp, local [api.MaxTemps]int
	count := 0
	for i := range g.Temps {
		temp[i] = count
		if asked.has(i) {
			count++
		}
	}
	g.Temps = count
	var objects []api.Obj
	for i, o := range g.Locals {
		local[i] = len(objects)
		if named.has(int64(i)) {
			objects = append(objects, o)
		}
	}
	g.Locals = objects
	g.Blocks = slices.Clone(g.Blocks)
	for i, b := range g.Blocks {
		b = mappedBlock(b, func(t api.Tree) api.Tree {
			switch t.Op {
			case api.RTmp:
				t.N = int64(temp[t.N])
			case api.RLoc:
				t.N = int64(local[t.N])
			}
			return t
		})
		for j, s := range b.Steps {
			if s.To != nowhere {
				b.Steps[j].To = temp[s.To]
			}
		}
		g.Blocks[i] = b
	}
	return g
}
