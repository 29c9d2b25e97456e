package lower

import "gantlet/api"

const (
	entry = 0  // the block that a call begins with
	none  = -1 // no temporary, no block
)

// builder builds blocks. Each one has a number from the time on when something leads to it, and is
// begun later.
type builder struct {
	blocks []api.Block
	begun  []int // in which order
	at     int   // the block that steps come to; none, where no way leads to
}

// block tells the number of a new block.
func (b *builder) block() int {
	b.blocks = append(b.blocks, api.Block{})
	return len(b.blocks) - 1
}

// begin lets steps come to a block; what was there up to now goes on with it.
func (b *builder) begin(block int) {
	b.jump(block)
	b.at = block
	b.begun = append(b.begun, block)
}

func (b *builder) step(s api.Step) {
	if b.at != none {
		to := &b.blocks[b.at]
		to.Steps = append(to.Steps, s)
	}
}

// end ends the block that steps come to.
func (b *builder) end(how int, cond api.Tree, next, other int) {
	if b.at != none {
		to := &b.blocks[b.at]
		to.End, to.Cond, to.Next, to.Else = how, cond, next, other
		b.at = none
	}
}

func (b *builder) jump(to int) {
	b.end(api.EndJump, api.Tree{}, to, 0)
}

func (b *builder) give(value api.Tree) {
	b.end(api.EndReturn, value, 0, 0)
}

// fork goes on with one block or another one, as a value is not 0, or is.
func (b *builder) fork(cond api.Tree, yes, no int) {
	switch {
	case cond.Op != api.RCon:
		b.end(api.EndBranch, cond, yes, no)
	case cond.N != 0:
		b.jump(yes)
	default:
		b.jump(no)
	}
}

// built tells the blocks that a way leads to from the entry, in the order in which they were
// begun, in new memory: trees share theirs up to here.
func (b *builder) built() []api.Block {
	reached := make([]bool, len(b.blocks))
	b.reach(entry, reached)
	places := make([]int, len(b.blocks))
	n := 0
	for _, i := range b.begun {
		places[i] = n
		if reached[i] {
			n++
		}
	}
	var l []api.Block
	for _, i := range b.begun {
		if reached[i] {
			l = append(l, moved(b.blocks[i], places))
		}
	}
	return l
}

// reach marks a block, and all that ways lead to from there.
func (b *builder) reach(from int, reached []bool) {
	work := []int{from}
	for len(work) > 0 {
		i := work[len(work)-1]
		work = work[:len(work)-1]
		if reached[i] {
			continue
		}
		reached[i] = true
		switch end := &b.blocks[i]; end.End {
		case api.EndBranch:
			work = append(work, end.Next, end.Else)
		case api.EndJump:
			work = append(work, end.Next)
		}
	}
}

// moved tells a block anew, where the blocks that it leads to have other places.
func moved(b api.Block, places []int) api.Block {
	own := api.Block{End: b.End, Cond: again(b.Cond)}
	if b.End != api.EndReturn {
		own.Next = places[b.Next]
	}
	if b.End == api.EndBranch {
		own.Else = places[b.Else]
	}
	for _, s := range b.Steps {
		s.Args = allAgain(s.Args)
		own.Steps = append(own.Steps, s)
	}
	return own
}

// again tells a tree in new memory.
func again(t api.Tree) api.Tree {
	t.Kids = allAgain(t.Kids)
	return t
}

func allAgain(l []api.Tree) []api.Tree {
	var own []api.Tree
	for _, t := range l {
		own = append(own, again(t))
	}
	return own
}
