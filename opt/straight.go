package opt

import (
	"slices"

	"gantlet/api"
)

// small is how many steps and nodes a block has, at most, that comes to stand in a jump's place though
// others lead to it, too. One that returns, without steps, may have more.
const small = 12

// router makes the ways through a function short.
type router struct {
	blocks []api.Block
	notes  []note
	entry  int
	room   int // how many more nodes there may be
	steps  int // how many more steps
}

// straight tells a function without blocks that are never reached, branches that always go the same way,
// and jumps that are not needed.
func straight(g api.Graph, notes []note, most bound) api.Graph {
	left := most.less(g)
	f := router{blocks: slices.Clone(g.Blocks), notes: notes, room: left.nodes, steps: left.steps}
	for i := range f.blocks {
		f.stop(i)
	}
	for i := range f.blocks {
		f.decide(i)
	}
	for i := range f.blocks {
		f.shorten(i)
	}
	f.entry = f.past(entry)
	for _, i := range reached(f.blocks, f.entry, f.notes) {
		f.enter(i)
	}
	f.chain()
	g.Blocks = f.kept()
	return g
}

// stop lets a block that never comes to its end return behind its last step, so that what it would lead
// to is not taken to be reached.
func (f *router) stop(i int) {
	b := &f.blocks[i]
	last := lastOf(*b, f.notes)
	if last == len(b.Steps) {
		return
	}
	own := api.Block{Steps: slices.Clone(b.Steps[:last+1]), End: api.EndReturn, Cond: con(0)}
	more := nodes(own) - nodes(*b)
	if more <= f.room {
		f.room -= more
		*b = own
	}
}

// decide makes a jump of a branch that always goes the same way.
func (f *router) decide(i int) {
	b := &f.blocks[i]
	switch {
	case b.End != api.EndBranch:
	case isZero(b.Cond):
		*b = jumpTo(b.Steps, b.Else)
	case b.Cond.Op == api.RCon || b.Next == b.Else:
		*b = jumpTo(b.Steps, b.Next)
	}
}

// shorten lets a block lead to where others without steps lead to.
func (f *router) shorten(i int) {
	b := &f.blocks[i]
	if b.End != api.EndReturn {
		b.Next = f.past(b.Next)
	}
	if b.End == api.EndBranch {
		b.Else = f.past(b.Else)
		f.decide(i)
	}
}

// past tells the block behind those that only jump; of a ring of such, the one with the least number.
func (f *router) past(i int) int {
	isEmpty := func(i int) bool { return len(f.blocks[i].Steps) == 0 && f.blocks[i].End == api.EndJump }
	for range f.blocks {
		if !isEmpty(i) {
			return i
		}
		i = f.blocks[i].Next
	}
	least := i
	for range f.blocks {
		i = f.blocks[i].Next
		least = min(least, i)
	}
	return least
}

// enter puts a block in the place of a jump to it, if that makes the function not much larger.
func (f *router) enter(i int) {
	b := &f.blocks[i]
	if b.End != api.EndJump || !f.mayEnter(i, b.Next) {
		return
	}
	next := f.blocks[b.Next]
	n := nodes(next)
	if n > f.room || len(next.Steps) > f.steps {
		return
	}
	f.room -= n
	f.steps -= len(next.Steps)
	f.append(i)
}

// mayEnter tells whether a block may stand in the place of another one's jump to it. One with steps that
// goes on does so just where the jump leads back, as a loop has it: of a way into a loop there would be
// more and more.
func (f *router) mayEnter(from, i int) bool {
	b := f.blocks[i]
	isSmall := nodes(b)+len(b.Steps) <= small
	switch {
	case b.End == api.EndJump:
		return false
	case b.End == api.EndReturn:
		return isSmall || len(b.Steps) == 0
	}
	return isSmall && (len(b.Steps) == 0 || from > i && b.Next != i && b.Else != i)
}

// append puts the block to which another one jumps behind that one's steps.
func (f *router) append(i int) {
	own := f.blocks[f.blocks[i].Next]
	own.Steps = slices.Concat(f.blocks[i].Steps, own.Steps)
	f.blocks[i] = own
}

// chain brings blocks together of which the one is led to by the other one alone.
func (f *router) chain() {
	order := reached(f.blocks, f.entry, f.notes)
	leads := make([]int, len(f.blocks))
	leads[f.entry] = 1
	for _, i := range order {
		for _, to := range targets(f.blocks[i]) {
			leads[to]++
		}
	}
	gone := make([]bool, len(f.blocks))
	for _, i := range order {
		for !gone[i] && f.blocks[i].End == api.EndJump {
			next := f.blocks[i].Next
			if next == i || leads[next] > 1 {
				break
			}
			f.append(i)
			gone[next] = true
		}
	}
}

// kept tells the blocks that are reached, the one that is entered first.
func (f *router) kept() []api.Block {
	order := reached(f.blocks, f.entry, f.notes)
	places := make([]int, len(f.blocks))
	for n, i := range order {
		places[i] = n
	}
	var l []api.Block
	for _, i := range order {
		b := f.blocks[i]
		if b.End != api.EndReturn {
			b.Next = places[b.Next]
		}
		if b.End == api.EndBranch {
			b.Else = places[b.Else]
		}
		l = append(l, b)
	}
	return l
}
