package opt

import (
	"slices"

	"gantlet/api"
)

// live tells, of each block, the temporaries whose values ahead of it are asked for on some way from
// there.
func live(g api.Graph) []temps {
	ahead := make([]temps, len(g.Blocks))
	for again := true; again; {
		again = false
		for i := len(g.Blocks) - 1; i >= 0; i-- {
			b := g.Blocks[i]
			if s := before(b, behind(b, ahead)); s != ahead[i] {
				ahead[i], again = s, true
			}
		}
	}
	return ahead
}

// behind tells the temporaries that are live where a block has come to its end.
func behind(b api.Block, ahead []temps) temps {
	var s temps
	for _, to := range targets(b) {
		s.join(ahead[to])
	}
	return s
}

// before tells those that are live ahead of a block, from those behind it.
func before(b api.Block, s temps) temps {
	s.read([]api.Tree{b.Cond})
	for _, step := range slices.Backward(b.Steps) {
		if step.To != nowhere {
			s.remove(step.To)
		}
		s.read(step.Args)
	}
	return s
}
