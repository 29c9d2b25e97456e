package opt

import (
	"slices"

	"gantlet/api"
)

// mover brings steps of a function to later places. What a tree tells it tells later, too, as long as
// the temporaries and the memory that it asks for stay what they are; and if it is stuck there, it was
// stuck before.
type mover struct {
	*forest
	graph   api.Graph
	notes   []note
	private locals
	live    []temps // ahead of each block
	leads   []int   // how many ways there are to each block
	tail
}

// tail is what is behind the step in hand, in its block.
type tail struct {
	rest []api.Step // the next one last
	end  *api.Block
	out  temps // live behind the block
}

// late tells a function in which what is set is told as late as may be, within what asks for it, if
// that is just one tree; what nobody asks for is left out.
func late(g api.Graph, notes []note) api.Graph {
	g.Blocks = slices.Clone(g.Blocks)
	f := newForest()
	s := surveyOf(f, g)
	m := mover{forest: f, graph: g, notes: notes, private: s.private(), live: live(g), leads: make([]int, len(g.Blocks))}
	for _, b := range g.Blocks {
		for _, to := range targets(b) {
			m.leads[to]++
		}
	}
	for i := range g.Blocks {
		m.through(i)
	}
	return g
}

// through goes through a block from its end.
func (m *mover) through(i int) {
	b := &m.graph.Blocks[i]
	m.tail = tail{end: b, out: behind(*b, m.live)}
	for _, s := range slices.Backward(b.Steps) {
		switch s.Op {
		case api.GSet:
			m.place(s)
		case api.GGet, api.GCall:
			m.rest = append(m.rest, m.aimed(s))
		case api.GStore:
			if !m.isLost(s) {
				m.rest = append(m.rest, s)
			}
		default:
			m.rest = append(m.rest, s)
		}
	}
	slices.Reverse(m.rest)
	b.Steps = m.rest
}

// asked tells whether the value that a temporary has behind rest j is asked for.
func (m *mover) asked(temp, j int) bool {
	for j--; j >= 0; j-- {
		s := m.rest[j]
		switch {
		case count(s.Args, temp) > 0:
			return true
		case s.To == temp:
			return false
		}
	}
	return m.out.has(temp) || m.endAsks(temp) > 0
}

// endAsks tells how often the end of the block asks for a temporary.
func (m *mover) endAsks(temp int) int {
	return count([]api.Tree{m.end.Cond}, temp)
}

// place puts a set where it comes latest: into what asks for it, or behind the last step that does
// more than to set a temporary. Sets stay in their order, so that what has its place keeps it.
func (m *mover) place(s api.Step) {
	at := len(m.rest)
	for j := at - 1; j >= 0; j-- {
		next := &m.rest[j]
		asks := count(next.Args, s.To)
		switch {
		case asks == 1 && (next.To == s.To || !m.asked(s.To, j)) && fill(&next.Args, s):
			return
		case asks == 0 && next.To == s.To:
			return
		case asks > 0 || m.changes(*next, s.Args[0]):
			m.rest = slices.Insert(m.rest, at, s)
			return
		case next.Op != api.GSet:
			at = j
		}
	}
	m.placeAtEnd(s, at)
}

// placeAtEnd puts a set that all that is left of the block may come ahead of.
func (m *mover) placeAtEnd(s api.Step, at int) {
	asks, lives := m.endAsks(s.To), m.out.has(s.To)
	cond := []api.Tree{m.end.Cond}
	switch {
	case asks == 0 && !lives:
	case asks == 1 && !lives && fill(&cond, s):
		m.end.Cond = cond[0]
	case asks == 0 && m.sink(s):
	default:
		m.rest = slices.Insert(m.rest, at, s)
	}
}

// sink puts a set to the begin of the one block that asks for it behind a branch, if that block has no
// other way to it.
func (m *mover) sink(s api.Step) bool {
	b := m.end
	if b.End != api.EndBranch || m.live[b.Next].has(s.To) == m.live[b.Else].has(s.To) {
		return false
	}
	to := b.Next
	if m.live[b.Else].has(s.To) {
		to = b.Else
	}
	if m.leads[to] != 1 || to == entry {
		return false
	}
	next := &m.graph.Blocks[to]
	next.Steps = slices.Concat([]api.Step{s}, next.Steps)
	m.live[to].remove(s.To)
	m.live[to].read(s.Args)
	m.out = behind(*b, m.live)
	return true
}

// fill puts what a set tells to where trees ask for it once, if that comes to a tree that may be.
func fill(l *[]api.Tree, s api.Step) bool {
	own := filled(*l, s.To, s.Args[0])
	if slices.ContainsFunc(own, func(t api.Tree) bool { return size(t) > api.MaxTree }) {
		return false
	}
	*l = own
	return true
}

// changes tells whether a step may change what a tree tells.
func (m *mover) changes(s api.Step, t api.Tree) bool {
	if s.To != nowhere && count([]api.Tree{t}, s.To) > 0 {
		return true
	}
	if s.Op == api.GStore {
		return m.loads(m.take(t), s.Size, m.take(s.Args[0]))
	}
	return s.Op == api.GCall && m.notes[s.Fn].writes && m.loads(m.take(t), 0, none)
}

// loads tells whether a tree may load from an element; at none: from any that is not private.
func (m *mover) loads(l label, size int, at label) bool {
	p := m.of(l).node
	if sizeOf(p.op) > 0 {
		switch {
		case at == none && !m.isPrivate(m.of(p.kids[0]).object, m.private):
			return true
		case at != none && sizeOf(p.op) == size && m.mayMeet(p.kids[0], at, m.private):
			return true
		}
	}
	for _, k := range p.kids {
		if k != none && m.loads(k, size, at) {
			return true
		}
	}
	return false
}

// anyLoads tells whether one of several trees may load from an element.
func (m *mover) anyLoads(l []api.Tree, size int, at label) bool {
	return slices.ContainsFunc(l, func(t api.Tree) bool { return m.loads(m.take(t), size, at) })
}

// isLost tells whether what is stored is never loaded.
func (m *mover) isLost(s api.Step) bool {
	at := m.take(s.Args[0])
	object := m.of(at).object
	for _, next := range slices.Backward(m.rest) {
		isSame := next.Op == api.GStore && next.Size == s.Size && sameTree(next.Args[0], s.Args[0])
		switch {
		case m.anyLoads(next.Args, s.Size, at):
			return false
		case isSame || next.Op == api.GExit:
			return true
		case m.changes(next, s.Args[0]):
			return false
		case next.Op == api.GCall && !m.isPrivate(object, m.private):
			return false
		}
	}
	return m.end.End == api.EndReturn && m.of(object).op == api.RLoc && !m.loads(m.take(m.end.Cond), s.Size, at)
}

// aimed tells a step that gets a number, or calls a function, with its temporary left out if nobody asks
// for that, or become the one to which it is moved at once.
func (m *mover) aimed(s api.Step) api.Step {
	if s.To == nowhere {
		return s
	}
	for j := len(m.rest) - 1; j >= 0; j-- {
		next := m.rest[j]
		if next.Op == api.GSet && isTemp(next.Args[0], s.To) {
			if !m.asked(s.To, j) && m.isFree(next.To, j) {
				s.To = next.To
				m.rest = slices.Delete(m.rest, j, j+1)
			}
			return s
		}
		if next.To == s.To || count(next.Args, s.To) > 0 {
			break
		}
	}
	if s.Op == api.GCall && !m.asked(s.To, len(m.rest)) {
		s.To = nowhere
	}
	return s
}

// isFree tells whether no step ahead of rest j asks for a temporary, or sets it.
func (m *mover) isFree(temp, j int) bool {
	return !slices.ContainsFunc(m.rest[j+1:], func(s api.Step) bool { return s.To == temp || count(s.Args, temp) > 0 })
}
