package sample

import (
	"math"

	"gantlet/api"
)

// half is how many temporaries are numbers; those from there on are places in elements of one size each.
const half = 10

// grapher makes one function of a program of the middle language. So that not all are stuck at once, what
// a tree tells is mostly a number where one is asked for, and a place where that is. Element 0 of global
// 0 is a place, too.
type grapher struct {
	below  func(int) int
	p      *api.Prog
	locals []api.Obj
	blocks int
	ready  bool // the temporaries that are places have been set
}

func con(n int64) api.Tree                 { return api.Tree{Op: api.RCon, N: n} }
func leaf(op, n int) api.Tree              { return api.Tree{Op: op, N: int64(n)} }
func of(op int, kids ...api.Tree) api.Tree { return api.Tree{Op: op, Kids: kids} }

func set(to int, t api.Tree) api.Step {
	return api.Step{Op: api.GSet, To: to, Args: []api.Tree{t}}
}

func store(size int, at, v api.Tree) api.Step {
	return api.Step{Op: api.GStore, To: -1, Size: size, Args: []api.Tree{at, v}}
}

func put(t api.Tree) api.Step {
	return api.Step{Op: api.GPut, To: -1, Args: []api.Tree{t}}
}

// edges are numbers at which widths, signs and counts of shifts turn.
func edges() []int64 {
	return []int64{
		0, 1, 2, 3, 7, 8, 9, 31, 32, 33, 62, 63, 64, 65, 127, 128, 255, 256, 32767, 32768, 65535, 65536,
		math.MaxInt32, math.MaxInt32 + 1, math.MaxUint32, math.MaxUint32 + 1, math.MaxInt64 - 1, math.MaxInt64,
		-1, -2, -7, -8, -63, -64, -65, -128, -129, -256, -32768, -32769, -65536, math.MinInt32, math.MinInt32 - 1, math.MinInt64 + 1, math.MinInt64,
	}
}

// Graph makes a program of the middle language.
func Graph(below func(n int) int) api.Prog {
	p := api.Prog{Globals: objects(below, 8, 1, 2, 4, 8, 4)}
	p.Globals[0].Init = nil
	for range 3 + below(3) {
		p.Funcs = append(p.Funcs, api.Graph{Params: below(5), Temps: 2 * half})
	}
	p.Funcs[0].Params = 0
	for i := range p.Funcs {
		g := &p.Funcs[i]
		if below(3) > 0 {
			g.Locals = objects(below, 1, 2, 4, 8, 4)
		}
		m := grapher{below: below, p: &p, locals: g.Locals, blocks: 1 + below(8)}
		for j := range m.blocks {
			g.Blocks = append(g.Blocks, m.block(j, i))
		}
		if g.Params > 1 { // the place that is told
			place := []api.Step{set(half+6, leaf(api.RTmp, 1)), set(1, con(3))}
			g.Blocks[0].Steps = append(place, g.Blocks[0].Steps...)
		}
	}
	return p
}

func objects(below func(int) int, sizes ...int) []api.Obj {
	var l []api.Obj
	for _, size := range sizes {
		o := api.Obj{Size: size, Count: 1 + below(5)}
		for range below(o.Count + 1) {
			o.Init = append(o.Init, edges()[below(len(edges()))])
		}
		l = append(l, o)
	}
	return l
}

func (m *grapher) one(of int) bool                      { return m.below(of) == 0 }
func (m *grapher) temp(from int) api.Tree               { return leaf(api.RTmp, from+m.below(half)) }
func (m *grapher) size() int                            { return 1 << m.below(4) }
func (m *grapher) small() api.Tree                      { return con(int64(m.below(40) - 15)) }
func (m *grapher) edge() api.Tree                       { return con(edges()[m.below(len(edges()))]) }
func (m *grapher) chosen(l ...func() api.Tree) api.Tree { return l[m.below(len(l))]() }
func sizeOfTemp(i int) int                              { return 1 << (i % 4) }
func (m *grapher) told() api.Tree                       { return m.temp(0) }

// load tells an op that loads so many bytes.
func (m *grapher) load(size int) int {
	switch size {
	case 1:
		return []int{api.RLoad8, api.RLoadU8}[m.below(2)]
	case 2:
		return []int{api.RLoad16, api.RLoadU16}[m.below(2)]
	case 4:
		return []int{api.RLoad32, api.RLoadU32}[m.below(2)]
	}
	return api.RLoad64
}

// number is a tree that is mostly a number.
func (m *grapher) number(deep int) api.Tree {
	if m.one(400) {
		return m.place(m.size(), deep)
	}
	if deep == 0 {
		return m.chosen(m.small, m.edge, m.told, m.told)
	}
	pair := func() api.Tree { return of(api.RAdd+m.below(19), m.number(deep-1), m.number(deep-1)) }
	return m.chosen(
		pair, pair,
		func() api.Tree { return of(api.RExt8+m.below(6), m.number(deep-1)) },
		func() api.Tree { return m.loaded(deep) },
		func() api.Tree { return m.compared(deep) },
	)
}

func (m *grapher) loaded(deep int) api.Tree {
	size := m.size()
	return of(m.load(size), m.place(size, deep-1))
}

// compared is a tree of places, by ops of those.
func (m *grapher) compared(deep int) api.Tree {
	size := m.size()
	a := m.place(size, 0)
	switch m.below(8) {
	case 0:
		return of(api.REq, a, con(0))
	case 1:
		return of(api.RNe, con(0), a)
	case 2:
		return of(api.REq, a, m.place(size, 0))
	}
	ops := []int{api.RSub, api.REq, api.RNe, api.RLt, api.RLtU, api.RLe, api.RLeU}
	return of(ops[m.below(len(ops))], a, of(api.RAdd, a, con(0)))
}

// place is a tree that is mostly a place of an element of a size.
func (m *grapher) place(size, deep int) api.Tree {
	if m.ready && m.one(2) {
		t := m.temp(half)
		for sizeOfTemp(int(t.N)) != size {
			t = m.temp(half)
		}
		return t
	}
	if m.one(8) && size == 4 {
		return of(api.RLoad64, leaf(api.RGlo, 0))
	}
	return m.fixed(size)
}

// fixed is a place in a global, or in a local, of elements of a size.
func (m *grapher) fixed(size int) api.Tree {
	op, l := api.RGlo, m.p.Globals
	if m.one(2) && len(m.locals) > 0 {
		op, l = api.RLoc, m.locals
	}
	i := m.below(len(l))
	for range 20 {
		if l[i].Size == size && (op == api.RLoc || i > 0) {
			break
		}
		i = m.below(len(l))
	}
	t := leaf(op, i)
	at := int64(m.below(l[i].Count) * l[i].Size)
	size = l[i].Size
	switch {
	case m.one(40):
		at = int64(m.below(l[i].Count*size + 2))
	case m.one(30):
		at = int64(l[i].Count * size)
	case m.one(3):
		return t
	case m.one(3):
		return of(api.RSub, of(api.RAdd, t, con(int64(size))), con(int64(size)-at))
	case m.one(3):
		return of(api.RAdd, con(at), t)
	}
	return of(api.RAdd, t, con(at))
}

func (m *grapher) step() api.Step {
	switch m.below(12) {
	case 0, 1, 2:
		return set(m.below(half), m.number(1+m.below(4)))
	case 3:
		to := half + m.below(half)
		return set(to, m.place(sizeOfTemp(to), 1))
	case 4, 5:
		size := m.size()
		return store(size, m.place(size, 1), m.number(2))
	case 6:
		return store(8, leaf(api.RGlo, 0), m.place(4, 1))
	case 7, 8:
		return put(m.number(m.below(4)))
	case 9:
		return api.Step{Op: api.GGet, To: m.below(half)}
	case 10:
		return m.call()
	}
	if !m.one(12) {
		return m.step()
	}
	return api.Step{Op: api.GExit, To: -1, Args: []api.Tree{m.number(2)}}
}

// call calls a function, but the first one; what function 2 tells is a place.
func (m *grapher) call() api.Step {
	s := api.Step{Op: api.GCall, To: m.below(half+1) - 1, Fn: 1 + m.below(len(m.p.Funcs)-1)}
	if s.Fn == 2 && s.To >= 0 {
		s.To = half + 2 // of 4 bytes
	}
	for i := range m.p.Funcs[s.Fn].Params {
		if i == 1 {
			s.Args = append(s.Args, m.place(4, 0))
		} else {
			s.Args = append(s.Args, m.number(2))
		}
	}
	return s
}

// block is one that goes on mostly to those behind it.
func (m *grapher) block(i int, tells int) api.Block {
	var b api.Block
	if i == 0 {
		for t := half; t < 2*half; t++ {
			b.Steps = append(b.Steps, set(t, m.fixed(sizeOfTemp(t))))
		}
		m.ready = true
	}
	for range m.below(6) {
		b.Steps = append(b.Steps, m.step())
	}
	next := func() int {
		if m.one(4) {
			return m.below(m.blocks)
		}
		return min(m.blocks-1, i+1+m.below(3))
	}
	switch {
	case i == m.blocks-1 || m.one(6):
		b.End, b.Cond = api.EndReturn, m.number(2)
		if tells == 2 {
			b.Cond = m.place(4, 0)
		}
	case m.one(3):
		b.End, b.Next = api.EndJump, next()
	default:
		b.End, b.Cond, b.Next, b.Else = api.EndBranch, m.number(3), next(), next()
		if m.one(12) {
			b.Cond = m.place(m.size(), 1)
		}
	}
	return b
}
