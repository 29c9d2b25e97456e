package opt

import "gantlet/api"

// bound is how many nodes and steps a function has, or may have.
type bound struct {
	nodes, steps int
}

func boundOf(g api.Graph) bound {
	var b bound
	for _, block := range g.Blocks {
		b.nodes += nodes(block)
		b.steps += len(block.Steps)
	}
	return b
}

// mostOf tells how many a function may come to have that was handed in. It is not to become much larger,
// as what is made of it later has limits, too.
func mostOf(g api.Graph) bound {
	const maxNodes = 8000
	b := boundOf(g)
	return bound{min(2*b.nodes+200, maxNodes), min(2*b.steps+50, api.MaxSteps)}
}

// less tells how many more a function may have.
func (b bound) less(g api.Graph) bound {
	has := boundOf(g)
	return bound{b.nodes - has.nodes, b.steps - has.steps}
}
