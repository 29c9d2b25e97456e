package graph_test

import (
	"testing"

	"gantlet/api"
)

// Programs made at random. So that not all are stuck at once, what a tree tells is mostly a number
// where one is asked for, and a place where that is: temporaries below half are numbers, those from
// there on places in elements of one size; element 0 of global 0 is a place, too.

const half = 10

// maker makes one function of a program.
type maker struct {
	below  func(int) int
	p      *api.Prog
	locals []api.Obj
	blocks int
	ready  bool // the temporaries that are places have been set
}

func leaf(op int, n int64) api.Tree        { return api.Tree{Op: op, N: n} }
func of(op int, kids ...api.Tree) api.Tree { return api.Tree{Op: op, Kids: kids} }
func (m *maker) one(of int) bool           { return m.below(of) == 0 }
func (m *maker) small() int64              { return int64(m.below(40) - 15) }
func (m *maker) temp(from int) api.Tree    { return leaf(api.RTmp, int64(from+m.below(half))) }
func sizeOfTemp(i int64) int               { return []int{1, 2, 4, 8}[i%4] }
func loadOf(size, sign int) int {
	return map[int][]int{1: {api.RLoad8, api.RLoadU8}, 2: {api.RLoad16, api.RLoadU16}, 4: {api.RLoad32, api.RLoadU32}, 8: {api.RLoad64, api.RLoad64}}[size][sign]
}
func (m *maker) sizes() int                           { return []int{1, 2, 4, 8}[m.below(4)] }
func (m *maker) edge() api.Tree                       { return leaf(api.RCon, edges[m.below(len(edges))]) }
func (m *maker) chosen(l ...func() api.Tree) api.Tree { return l[m.below(len(l))]() }

// number is a tree that is mostly a number.
func (m *maker) number(deep int) api.Tree {
	if m.one(400) {
		return m.place(m.sizes(), deep)
	}
	if deep == 0 {
		return m.chosen(func() api.Tree { return leaf(api.RCon, m.small()) }, m.edge, func() api.Tree { return m.temp(0) }, func() api.Tree { return m.temp(0) })
	}
	return m.chosen(
		func() api.Tree { return of(api.RAdd+m.below(18), m.number(deep-1), m.number(deep-1)) },
		func() api.Tree { return of(api.RAdd+m.below(18), m.number(deep-1), m.number(deep-1)) },
		func() api.Tree { return of(api.RExt8+m.below(6), m.number(deep-1)) },
		func() api.Tree { return m.loaded(deep) },
		func() api.Tree { return m.compared(deep) },
	)
}

func (m *maker) loaded(deep int) api.Tree {
	size := m.sizes()
	return of(loadOf(size, m.below(2)), m.place(size, deep-1))
}

// compared is a tree of places, by ops of those.
func (m *maker) compared(deep int) api.Tree {
	size := m.sizes()
	a := m.place(size, 0)
	switch m.below(8) {
	case 0:
		return of(api.REq, a, leaf(api.RCon, 0))
	case 1:
		return of(api.RNe, leaf(api.RCon, 0), a)
	case 2:
		return of(api.REq, a, m.place(size, 0))
	}
	ops := []int{api.RSub, api.REq, api.RNe, api.RLt, api.RLtU, api.RLe, api.RLeU}
	return of(ops[m.below(len(ops))], a, of(api.RAdd, a, leaf(api.RCon, 0)))
}

// place is a tree that is mostly a place of an element of a size.
func (m *maker) place(size, deep int) api.Tree {
	if m.ready && m.one(2) {
		t := m.temp(half)
		for sizeOfTemp(t.N) != size {
			t = m.temp(half)
		}
		return t
	}
	if m.one(8) && size == 4 {
		return of(api.RLoad64, leaf(api.RGlo, 0))
	}
	return m.fixed(size)
}

// fixed is a place in a global, or in a local, of elements of a size.
func (m *maker) fixed(size int) api.Tree {
	op, l := api.RGlo, m.p.Globals
	if m.one(2) && len(m.locals) > 0 {
		op, l = api.RLoc, m.locals
	}
	i := m.below(len(l))
	for range 20 {
		if l[i].Size == size && (op == api.RLoc || i > 0) {
			break
		}
		i = m.below(len(l))
	}
	t := leaf(op, int64(i))
	at := m.below(l[i].Count) * l[i].Size
	switch {
	case m.one(40):
		at = m.below(l[i].Count*l[i].Size + 2)
	case m.one(30):
		at = l[i].Count * l[i].Size
	case m.one(3):
		return t
	case m.one(3):
		return of(api.RSub, of(api.RAdd, t, leaf(api.RCon, int64(l[i].Size))), leaf(api.RCon, int64(l[i].Size-at)))
	case m.one(3):
		return of(api.RAdd, leaf(api.RCon, int64(at)), t)
	}
	return of(api.RAdd, t, leaf(api.RCon, int64(at)))
}

func (m *maker) step() api.Step {
	s := api.Step{To: -1}
	switch m.below(12) {
	case 0, 1, 2:
		s.Op, s.To, s.Args = api.GSet, m.below(half), []api.Tree{m.number(1 + m.below(4))}
	case 3:
		s.Op, s.To = api.GSet, half+m.below(half)
		s.Args = []api.Tree{m.place(sizeOfTemp(int64(s.To)), 1)}
	case 4, 5:
		s.Op, s.Size = api.GStore, m.sizes()
		s.Args = []api.Tree{m.place(s.Size, 1), m.number(2)}
	case 6:
		s.Op, s.Size = api.GStore, 8
		s.Args = []api.Tree{leaf(api.RGlo, 0), m.place(4, 1)}
	case 7, 8:
		s.Op, s.Args = api.GPut, []api.Tree{m.number(m.below(4))}
	case 9:
		s.Op, s.To = api.GGet, m.below(half)
	case 10:
		return m.call()
	case 11:
		if !m.one(12) {
			return m.step()
		}
		s.Op, s.Args = api.GExit, []api.Tree{m.number(2)}
	}
	return s
}

// call calls a function, mostly one behind its own; what function 2 tells is a place.
func (m *maker) call() api.Step {
	s := api.Step{Op: api.GCall, To: m.below(half+1) - 1, Fn: 1 + m.below(len(m.p.Funcs)-1)}
	if s.Fn == 2 && s.To >= 0 {
		s.To = half + 2 // of 4 bytes
	}
	for i := range m.p.Funcs[s.Fn].Params {
		if i == 1 {
			s.Args = append(s.Args, m.place(4, 0))
		} else {
			s.Args = append(s.Args, m.number(2))
		}
	}
	return s
}

// block is one that goes on mostly to those behind it.
func (m *maker) block(i int, tells int) api.Block {
	var b api.Block
	if i == 0 {
		for t := range half {
			b.Steps = append(b.Steps, api.Step{Op: api.GSet, To: half + t, Args: []api.Tree{m.fixed(sizeOfTemp(int64(half + t)))}})
		}
		m.ready = true
	}
	for range m.below(6) {
		b.Steps = append(b.Steps, m.step())
	}
	next := func() int {
		if m.one(4) {
			return m.below(m.blocks)
		}
		return min(m.blocks-1, i+1+m.below(3))
	}
	switch {
	case i == m.blocks-1 || m.one(6):
		b.End, b.Cond = api.EndReturn, m.number(2)
		if tells == 2 {
			b.Cond = m.place(4, 0)
		}
	case m.one(3):
		b.End, b.Next = api.EndJump, next()
	default:
		b.End, b.Cond, b.Next, b.Else = api.EndBranch, m.number(3), next(), next()
		if m.one(12) {
			b.Cond = m.place(m.sizes(), 1)
		}
	}
	return b
}

func madeObjs(below func(int) int, sizes ...int) []api.Obj {
	var l []api.Obj
	for _, size := range sizes {
		o := obj(size, 1+below(5))
		for range below(o.Count + 1) {
			o.Init = append(o.Init, edges[below(len(edges))])
		}
		l = append(l, o)
	}
	return l
}

// made makes a program.
func made(below func(int) int) api.Prog {
	p := api.Prog{Globals: madeObjs(below, 8, 1, 2, 4, 8, 4)}
	p.Globals[0].Init = nil
	for range 3 + below(3) {
		p.Funcs = append(p.Funcs, api.Graph{Params: below(5), Temps: 2 * half})
	}
	p.Funcs[0].Params = 0
	for i := range p.Funcs {
		g := &p.Funcs[i]
		if below(3) > 0 {
			g.Locals = madeObjs(below, 1, 2, 4, 8, 4)
		}
		m := maker{below: below, p: &p, locals: g.Locals, blocks: 1 + below(8)}
		for j := range m.blocks {
			g.Blocks = append(g.Blocks, m.block(j, i))
		}
		if g.Params > 1 { // the place that is told
			g.Blocks[0].Steps = append([]api.Step{{Op: api.GSet, To: half + 6, Args: []api.Tree{leaf(api.RTmp, 1)}}, {Op: api.GSet, To: 1, Args: []api.Tree{leaf(api.RCon, 3)}}}, g.Blocks[0].Steps...)
		}
	}
	return p
}

// TestMade is of P7.1: programs made at random end as the second machine tells, with much fuel and with
// little.
func TestMade(t *testing.T) {
	below := mix(20261120)
	kinds := map[int]int{}
	deep, long := 0, 0
	for i := range 6000 {
		p := made(below)
		in := []int64{int64(below(5)), edges[below(len(edges))], 7, int64(below(3)), 1}
		full := walked(p, in, 3000)
		kinds[full.Kind]++
		if full.Deep > 1 {
			deep++
		}
		if full.Kind == api.OExit && full.Steps > 40 {
			long++
		}
		for _, fuel := range []int{3000, full.Steps, full.Steps - 1, below(full.Steps + 1), below(50)} {
			if fuel < 0 {
				continue
			}
			if got, want := ran(t, p, in, fuel), walked(p, in, fuel); !same(got, want) {
				t.Fatalf("%d, %d: %s; should be %s", i, fuel, show(got), show(want))
			}
		}
	}
	if kinds[api.OExit] < 1000 || kinds[api.OStuck] < 1000 || kinds[api.OFuel] < 100 || kinds[api.OOver] < 10 || deep < 500 || long < 100 {
		t.Errorf("%v, %d call, %d are long", kinds, deep, long)
	}
}
