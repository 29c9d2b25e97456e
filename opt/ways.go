package opt

import "gantlet/api"

// lastOf tells how many steps of a block there are up to the first one behind which nothing comes; as
// many as there are, if there is none such.
func lastOf(b api.Block, notes []note) int {
	for i, s := range b.Steps {
		if isLast(s, notes) {
			return i
		}
	}
	return len(b.Steps)
}

// isLast tells whether nothing comes behind a step.
func isLast(s api.Step, notes []note) bool {
	return s.Op == api.GExit || s.Op == api.GCall && !notes[s.Fn].returns
}

// reached tells the blocks that ways from one of them lead to, that one ahead, and the others in the
// order in which they stand.
func reached(blocks []api.Block, from int, notes []note) []int {
	order := []int{from}
	is := make([]bool, len(blocks))
	is[from] = true
	for k := 0; k < len(order); k++ {
		for _, next := range ways(blocks[order[k]], notes) {
			if !is[next] {
				is[next] = true
				order = append(order, next)
			}
		}
	}
	order = order[:1]
	for i := range blocks {
		if is[i] && i != from {
			order = append(order, i)
		}
	}
	return order
}

// ways tells the blocks that come behind one.
func ways(b api.Block, notes []note) []int {
	if lastOf(b, notes) < len(b.Steps) {
		return nil
	}
	return targets(b)
}

// targets tells the blocks to which the end of one leads.
func targets(b api.Block) []int {
	switch b.End {
	case api.EndJump:
		return []int{b.Next}
	case api.EndBranch:
		return []int{b.Next, b.Else}
	}
	return nil
}
