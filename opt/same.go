package opt

import (
	"slices"

	"gantlet/api"
)

// Each of these tells whether two things do the same step by step. Globals and Main never change.

func sameProg(a, b api.Prog) bool {
	return slices.EqualFunc(a.Funcs, b.Funcs, sameGraph)
}

// sameGraph asks how many locals there are, as they are only ever left out.
func sameGraph(a, b api.Graph) bool {
	return a.Temps == b.Temps && len(a.Locals) == len(b.Locals) && slices.EqualFunc(a.Blocks, b.Blocks, sameBlock)
}

func sameBlock(a, b api.Block) bool {
	return a.End == b.End && a.Next == b.Next && a.Else == b.Else && sameTree(a.Cond, b.Cond) &&
		slices.EqualFunc(a.Steps, b.Steps, sameStep)
}

func sameStep(a, b api.Step) bool {
	return a.Op == b.Op && a.To == b.To && a.Size == b.Size && a.Fn == b.Fn && slices.EqualFunc(a.Args, b.Args, sameTree)
}

func sameTree(a, b api.Tree) bool {
	return a.Op == b.Op && a.N == b.N && slices.EqualFunc(a.Kids, b.Kids, sameTree)
}
