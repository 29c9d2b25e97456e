package graph

import "gantlet/api"

// shape is how many bytes an object has, and each of its elements.
type shape struct {
	bytes, element int64
}

// memory is objects, by their numbers, from 1 on. None has a number that another one had, as
// places in that one may still be told. One that is no more has the zero shape, and so has what
// is no object: no place is within it.
type memory struct {
	last   int // the number of the newest object
	shapes map[int]shape
	cells  map[api.Val]api.Val // what is at a place, by the place; where there is nothing: 0
}

func emptyMemory() memory {
	return memory{shapes: map[int]shape{}, cells: map[api.Val]api.Val{}}
}

// add makes an object. Its numbers are kept as they are: each load brings what it tells to its
// own size, which is that of the elements.
func (m *memory) add(o api.Obj) {
	m.last++
	size := int64(o.Size)
	m.shapes[m.last] = shape{bytes: size * int64(o.Count), element: size}
	for i, n := range o.Init {
		m.write(api.Val{Obj: m.last, N: size * int64(i)}, number(n))
	}
}

// drop makes an end of an object.
func (m *memory) drop(obj int) {
	s := m.shapes[obj]
	for n := int64(0); n < s.bytes; n += s.element {
		delete(m.cells, api.Val{Obj: obj, N: n})
	}
	delete(m.shapes, obj)
}

func (m *memory) write(p, v api.Val) {
	m.cells[p] = v
}

func (m *memory) read(p api.Val) api.Val {
	return m.cells[p]
}

// lives tells whether a place is one of an object that is.
func (m *memory) lives(p api.Val) bool {
	return m.shapes[p.Obj].bytes > 0
}

// within tells whether a place is one of an object that is, and not at its end.
func (m *memory) within(p api.Val) bool {
	return m.lives(p) && p.N < m.shapes[p.Obj].bytes
}

// holds tells whether an element of so many bytes is at a place.
func (m *memory) holds(size int64, p api.Val) bool {
	s := m.shapes[p.Obj]
	return s.element == size && p.N < s.bytes && p.N%size == 0
}

// mayBe tells whether a place is one of an object that is, or its end.
func (m *memory) mayBe(p api.Val) bool {
	return m.lives(p) && p.N >= 0 && p.N <= m.shapes[p.Obj].bytes
}

// mayOrder tells whether it is known how far two places are from each other.
func (m *memory) mayOrder(p, q api.Val) bool {
	return p.Obj == q.Obj && m.lives(p)
}

// mayMatch tells whether it is known whether a place and another value are the same.
func (m *memory) mayMatch(p, q api.Val) bool {
	switch {
	case p == api.Val{} || q == api.Val{}:
		return true
	case p.Obj == q.Obj:
		return m.lives(p)
	}
	return m.within(p) && m.within(q)
}
