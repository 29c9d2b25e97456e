package sample

import "gantlet/api"

// Of the temporaries of a tangled function the first ones are numbers, those behind them places in
// elements of 4 bytes, the last one a place in elements that are such places.
const (
	tangledNumbers = 5
	tangledTemps   = 9
)

// Of globals, and of locals, object 0 has elements of 4 bytes, object 1 places in such elements, 2 to 4
// elements of 1, 2 and 8 bytes.
const (
	inFours = iota
	inPlaces
	inOnes
	inTwos
	inEights
)

// tangler makes one function of a program of the middle language, most of which is not stuck: of few
// temporaries and objects, with trees that stand in it again and again, loops that end where what comes
// in does, and much that is of no use.
type tangler struct {
	below   func(int) int
	p       *api.Prog
	fn      int
	blocks  int
	numbers []api.Tree // that stood ahead
	spots   [2][]api.Tree
}

// Tangle makes a program of the middle language.
func Tangle(below func(n int) int) api.Prog {
	p := api.Prog{Globals: tangledObjects(below, 2)}
	for range 1 + below(4) {
		p.Funcs = append(p.Funcs, api.Graph{Params: below(4), Temps: tangledTemps})
	}
	p.Funcs[0].Params = 0
	for i := range p.Funcs {
		if below(2) == 0 {
			p.Funcs[i].Locals = tangledObjects(below, below(2))
		}
	}
	for i := range p.Funcs {
		m := tangler{below: below, p: &p, fn: i, blocks: 1 + below(9)}
		for j := range m.blocks {
			p.Funcs[i].Blocks = append(p.Funcs[i].Blocks, m.block(j))
		}
	}
	for i := range p.Funcs {
		first := &p.Funcs[i].Blocks[0]
		var ready []api.Step
		if i == p.Main {
			ready = placed(api.RGlo, api.RGlo)
		}
		if len(p.Funcs[i].Locals) > 0 {
			ready = append(ready, placed(api.RLoc, []int{api.RGlo, api.RLoc}[below(2)])...)
		}
		first.Steps = append(ready, first.Steps...)
	}
	return p
}

// tangledObjects are those of which some elements have values at first, if told is above 0.
func tangledObjects(below func(int) int, told int) []api.Obj {
	l := []api.Obj{{Size: 4, Count: 3}, {Size: 8, Count: 2}, {Size: 1, Count: 2}, {Size: 2, Count: 2}, {Size: 8, Count: 2}}
	for i := range l {
		for range below(l[i].Count + 1) {
			if told > 0 && i != inPlaces {
				l[i].Init = append(l[i].Init, int64(below(300)-10))
			}
		}
	}
	return l
}

// placed stores places in elements of the one kind of objects to those of the other one that are places.
func placed(to, in int) []api.Step {
	var l []api.Step
	for n := range int64(2) {
		l = append(l, store(8, plus(leaf(to, inPlaces), 8*n), plus(leaf(in, inFours), 4*n)))
	}
	return l
}

func plus(t api.Tree, n int64) api.Tree { return of(api.RAdd, t, con(n)) }

func (m *tangler) one(of int) bool { return m.below(of) == 0 }
func (m *tangler) op(l ...int) int { return l[m.below(len(l))] }
func (m *tangler) temp() int       { return m.below(tangledNumbers) }
func (m *tangler) placeTemp() int  { return tangledNumbers + m.below(tangledTemps-1-tangledNumbers) }
func (m *tangler) element(object, size int) api.Tree {
	return plus(m.base(object), int64(size*m.below(2)))
}

// kept tells a tree, which may then stand again; a large one is left out for another one.
func (m *tangler) kept(l *[]api.Tree, t, other api.Tree) api.Tree {
	switch {
	case count(t) > 30:
		return other
	case count(t) > 12:
	case len(*l) < 6:
		*l = append(*l, t)
	default:
		(*l)[m.below(6)] = t
	}
	return t
}

func count(t api.Tree) int {
	n := 1
	for _, k := range t.Kids {
		n += count(k)
	}
	return n
}

// number is a tree that is mostly a number.
func (m *tangler) number(deep int) api.Tree {
	if len(m.numbers) > 0 && m.one(3) {
		return m.numbers[m.below(len(m.numbers))]
	}
	temp := leaf(api.RTmp, m.temp())
	if deep > 0 {
		return m.kept(&m.numbers, m.made(deep-1), temp)
	}
	switch m.below(5) {
	case 0:
		return con(int64(m.below(5) - 1))
	case 1:
		return con([]int64{255, 256, -128, 1 << 31, 65535, 1 << 40, -1 << 63}[m.below(7)])
	}
	return temp
}

func (m *tangler) made(deep int) api.Tree {
	switch m.below(10) {
	case 0, 1, 2:
		return of(api.RAdd+m.below(19), m.number(deep), m.number(deep))
	case 3:
		return of(m.op(api.RAdd, api.RSub, api.RAnd, api.REq, api.RNe, api.RLt), m.number(deep), con(int64(m.below(4)-1)))
	case 4:
		return of(api.RExt8+m.below(6), m.number(deep))
	case 5, 6, 7:
		return m.load()
	case 8:
		return of(m.op(api.REq, api.RNe), m.spot(0), m.spot(0))
	}
	return of(m.op(api.REq, api.RNe), m.spot(m.below(2)), con(0))
}

func (m *tangler) load() api.Tree {
	switch m.below(6) {
	case 0:
		return of(m.op(api.RLoad8, api.RLoadU8), m.element(inOnes, 1))
	case 1:
		return of(m.op(api.RLoad16, api.RLoadU16), m.element(inTwos, 2))
	case 2:
		return of(api.RLoad64, m.element(inEights, 8))
	}
	return of(m.op(api.RLoad32, api.RLoadU32), m.spot(0))
}

// base is an object of the program, or of the function.
func (m *tangler) base(object int) api.Tree {
	if len(m.p.Funcs[m.fn].Locals) > 0 && m.one(2) {
		return leaf(api.RLoc, object)
	}
	return leaf(api.RGlo, object)
}

// spot is a tree that is mostly a place: deep 0 in elements of 4 bytes, deep 1 in places of such.
func (m *tangler) spot(deep int) api.Tree {
	if l := m.spots[deep]; len(l) > 0 && m.one(3) {
		return l[m.below(len(l))]
	}
	return m.kept(&m.spots[deep], m.madeSpot(deep), m.element(deep, 4+4*deep))
}

func (m *tangler) madeSpot(deep int) api.Tree {
	switch {
	case m.one(300):
		return m.number(1)
	case deep == 1 && m.one(3):
		return leaf(api.RTmp, tangledTemps-1)
	case deep == 1:
		return m.element(inPlaces, 8)
	}
	switch m.below(5) {
	case 0, 1:
		return leaf(api.RTmp, m.placeTemp())
	case 2:
		if m.one(3) {
			return of(api.RLoad64, m.spot(1))
		}
	case 3:
		return of(api.RAdd, m.base(inFours), of(api.RShl, of(api.RAnd, m.number(1), con(1)), con(2)))
	}
	return plus(m.base(inFours), int64(4*m.below(3)))
}

func (m *tangler) step() api.Step {
	switch m.below(16) {
	case 0, 1, 2:
		return set(m.temp(), m.number(m.below(4)))
	case 3:
		to := m.temp()
		return set(to, of(m.op(api.RAdd, api.RSub, api.RXor), leaf(api.RTmp, to), m.number(0)))
	case 4:
		return set(m.temp(), leaf(api.RTmp, m.temp()))
	case 5:
		return set(m.placeTemp(), m.spot(0))
	case 6:
		return set(tangledTemps-1, m.spot(1))
	case 7, 8:
		return store(4, m.spot(0), m.number(m.below(3)))
	case 9:
		return m.otherStore()
	case 10, 11, 12:
		return put(m.number(m.below(3)))
	case 13:
		return api.Step{Op: api.GGet, To: m.temp()}
	case 14:
		return m.call()
	}
	if m.one(20) {
		return api.Step{Op: api.GExit, To: -1, Args: []api.Tree{m.number(2)}}
	}
	return put(leaf(api.RTmp, m.temp()))
}

func (m *tangler) otherStore() api.Step {
	switch m.below(4) {
	case 0:
		return store(1, m.element(inOnes, 1), m.number(2))
	case 1:
		return store(2, m.element(inTwos, 2), m.number(2))
	case 2:
		return store(8, m.element(inEights, 8), m.number(2))
	}
	return store(8, m.spot(1), m.spot(0))
}

// call calls mostly a function behind its own. What function 2 tells is a place, and so is parameter 2.
func (m *tangler) call() api.Step {
	if len(m.p.Funcs) == 1 {
		return m.step()
	}
	s := api.Step{Op: api.GCall, To: m.below(tangledNumbers+1) - 1, Fn: min(len(m.p.Funcs)-1, m.fn+1+m.below(2))}
	if m.one(8) {
		s.Fn = m.below(len(m.p.Funcs))
	}
	if s.Fn == 2 && s.To >= 0 {
		s.To = m.placeTemp()
	}
	for i := range m.p.Funcs[s.Fn].Params {
		if i == 2 {
			s.Args = append(s.Args, m.spot(0))
		} else {
			s.Args = append(s.Args, m.number(2))
		}
	}
	return s
}

// first are the steps that set the temporaries that are places.
func (m *tangler) first() []api.Step {
	l := []api.Step{set(tangledTemps-1, m.base(inPlaces))}
	for to := tangledNumbers; to < tangledTemps-1; to++ {
		l = append(l, set(to, plus(m.base(inFours), int64(4*m.below(3)))))
	}
	if m.p.Funcs[m.fn].Params > 2 {
		l = append(l, set(tangledNumbers, leaf(api.RTmp, 2)), set(2, con(3)))
	}
	return l
}

func (m *tangler) block(i int) api.Block {
	var b api.Block
	if i == 0 {
		b.Steps = m.first()
	}
	for range m.below(7) {
		b.Steps = append(b.Steps, m.step())
	}
	m.numbers = m.numbers[:min(len(m.numbers), 3)]
	if i == m.blocks-1 || m.one(12) {
		return m.back(b)
	}
	ahead := func() int { return min(m.blocks-1, i+1+m.below(3)) }
	to := m.temp()
	b.End, b.Next, b.Else = api.EndBranch, ahead(), ahead()
	switch m.below(12) {
	case 0, 1, 2, 3:
		return api.Block{Steps: b.Steps, End: api.EndJump, Next: b.Next}
	case 4, 5:
		b.Steps = append(b.Steps, api.Step{Op: api.GGet, To: to})
		b.Cond, b.Next = leaf(api.RTmp, to), m.below(m.blocks)
	case 6, 7:
		b.Steps = append(b.Steps, set(to, plus(leaf(api.RTmp, to), -1)))
		b.Cond, b.Next = of(api.RLt, con(0), leaf(api.RTmp, to)), m.below(m.blocks)
	default:
		b.Cond = m.number(m.below(3))
	}
	return b
}

// back tells a block that returns, with some numbers put out.
func (m *tangler) back(b api.Block) api.Block {
	for t := range tangledNumbers {
		if m.one(2) {
			b.Steps = append(b.Steps, put(leaf(api.RTmp, t)))
		}
	}
	b.End, b.Cond = api.EndReturn, m.number(2)
	if m.fn == 2 {
		b.Cond = m.spot(0)
	}
	return b
}
