package model

import "gantlet/api"

// memory is objects, by their numbers. No pointer's object is number 0; it has no length, and
// so has an object that is no more: in neither is an element that may be read.
type memory struct {
	lengths []int64
	cells   map[api.Val]api.Val // what is at a place, by the place; where there is none: 0
}

func emptyMemory() memory {
	return memory{lengths: make([]int64, 1), cells: map[api.Val]api.Val{}}
}

// next tells the number of the object that is added next. None has a number that another one
// had, as pointers to that one may still be there.
func (m *memory) next() int {
	return len(m.lengths)
}

// add makes an object of so many elements, all 0, and tells its number.
func (m *memory) add(elements int) int {
	m.lengths = append(m.lengths, int64(elements))
	return len(m.lengths) - 1
}

// drop makes an end of all objects from a number on.
func (m *memory) drop(from int) {
	clear(m.lengths[from:])
}

func (m *memory) length(p api.Val) int64 {
	return m.lengths[p.Obj]
}

// holds tells whether an element is at a place.
func (m *memory) holds(p api.Val) bool {
	return p.N < m.length(p)
}

func (m *memory) set(p, v api.Val) {
	m.cells[p] = v
}

func (m *memory) at(p api.Val) api.Val {
	return m.cells[p]
}

// wipe makes all elements of an object 0.
func (m *memory) wipe(obj int) {
	for i := range m.lengths[obj] {
		delete(m.cells, api.Val{Obj: obj, N: i})
	}
}

// moved tells a pointer moved by so many elements, if it may be.
func (m *memory) moved(p api.Val, by int64) (api.Val, bool) {
	// From an index that may be, what does not fit into 64 bits comes out below 0.
	n := p.N + by
	if m.length(p) == 0 || n < 0 || n > m.length(p) {
		return api.Val{}, false
	}
	return api.Val{Obj: p.Obj, N: n}, true
}

// mayOrder tells whether it is known which of two pointers is the greater one, and how far
// they are from each other.
func (m *memory) mayOrder(p, q api.Val) bool {
	return p.Obj == q.Obj && (p.Obj == 0 || m.length(p) > 0)
}

// mayMatch tells whether it is known whether two pointers are the same.
func (m *memory) mayMatch(p, q api.Val) bool {
	switch {
	case p.Obj == 0 || q.Obj == 0:
		return true
	case p.Obj == q.Obj:
		return m.length(p) > 0
	}
	return m.holds(p) && m.holds(q)
}
