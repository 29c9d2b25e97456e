package fold_test

import (
	"gantlet/api"
	"gantlet/num"
)

// object is one that is, or is no more.
type object struct {
	bytes, element int64
	gone           bool
}

// scene is what a tree is told of: temporaries, objects by their numbers from 1 on (globals, then
// locals, then others), and what is in them.
type scene struct {
	temps   []api.Val
	objects []object
	globals int
	cells   map[api.Val]api.Val
}

// Objects of all scenes: globals 0 to 3 and locals 0 to 3 with elements of 1, 2, 4 and 8 bytes, another
// call's local, and two that are no more.
const (
	globals = 4
	locals  = 4
	other   = globals + locals + 1
	gone    = other + 1
)

func objects() []object {
	var l []object
	for i := range globals + locals {
		e := int64(1) << (i % 4)
		l = append(l, object{bytes: e * int64(2+i%3), element: e})
	}
	return append(l, object{bytes: 16, element: 4}, object{bytes: 16, element: 4, gone: true}, object{bytes: 8, element: 8, gone: true})
}

// sceneOf is one with these temporaries, and 0 in all elements.
func sceneOf(temps ...api.Val) *scene {
	return &scene{temps: temps, objects: objects(), globals: globals, cells: map[api.Val]api.Val{}}
}

// madeValue is a number or a place.
func madeValue(below func(int) int, l []object) api.Val {
	switch below(6) {
	case 0, 1, 2:
		return number(edges[below(len(edges))])
	case 3:
		return number(int64(below(20) - 8))
	}
	i := below(len(l))
	at := l[i].element * int64(below(int(l[i].bytes/l[i].element)+1))
	if below(5) == 0 {
		at = int64(below(int(l[i].bytes) + 1))
	}
	return placeAt(i+1, at)
}

// madeScene is one with six temporaries, numbers and places, in all elements, too.
func madeScene(below func(int) int) *scene {
	s := sceneOf()
	for range 6 {
		s.temps = append(s.temps, madeValue(below, s.objects))
	}
	for i, o := range s.objects {
		for n := int64(0); n < o.bytes; n += o.element {
			v := madeValue(below, s.objects)
			if o.element < 8 {
				v.Obj = 0
			}
			s.cells[placeAt(i+1, n)] = v
		}
	}
	return s
}

func number(n int64) api.Val              { return api.Val{N: n} }
func placeAt(object int, n int64) api.Val { return api.Val{Obj: object, N: n} }

func (s *scene) object(v api.Val) object { return s.objects[v.Obj-1] }

// told tells a tree's value by chapter 7; not ok: it is stuck.
func (s *scene) told(t api.Tree) (v api.Val, ok bool) {
	switch t.Op {
	case api.RCon:
		return number(t.N), true
	case api.RTmp:
		return s.temps[t.N], true
	case api.RGlo:
		return placeAt(1+int(t.N), 0), true
	case api.RLoc:
		return placeAt(1+s.globals+int(t.N), 0), true
	}
	a, ok := s.told(t.Kids[0])
	if !ok {
		return api.Val{}, false
	}
	if len(t.Kids) == 1 && t.Op <= api.RLoadU32 {
		return s.loaded(t.Op, a)
	}
	if len(t.Kids) == 1 {
		n, _ := num.Un(t.Op, a.N)
		return told(n, a.Obj == 0)
	}
	b, ok := s.told(t.Kids[1])
	if !ok {
		return api.Val{}, false
	}
	return s.ofTwo(t.Op, a, b)
}

func told(n int64, ok bool) (api.Val, bool) {
	if !ok {
		return api.Val{}, false
	}
	return number(n), true
}

func (s *scene) loaded(op int, at api.Val) (api.Val, bool) {
	size, cut := int64(0), 0
	switch op {
	case api.RLoad8:
		size, cut = 1, api.RExt8
	case api.RLoadU8:
		size, cut = 1, api.RZext8
	case api.RLoad16:
		size, cut = 2, api.RExt16
	case api.RLoadU16:
		size, cut = 2, api.RZext16
	case api.RLoad32:
		size, cut = 4, api.RExt32
	case api.RLoadU32:
		size, cut = 4, api.RZext32
	case api.RLoad64:
		size = 8
	}
	if at.Obj == 0 {
		return api.Val{}, false
	}
	o := s.object(at)
	if o.gone || o.element != size || at.N%size != 0 || at.N >= o.bytes {
		return api.Val{}, false
	}
	v := s.cells[at]
	if cut == 0 || v.Obj > 0 {
		return v, cut == 0
	}
	n, _ := num.Un(cut, v.N)
	return told(n, true)
}

func (s *scene) ofTwo(op int, a, b api.Val) (api.Val, bool) {
	p, q := a.Obj > 0, b.Obj > 0
	if !p && !q {
		n, _ := num.Bin(op, a.N, b.N)
		return told(n, true)
	}
	switch op {
	case api.RAdd:
		if p {
			a, b = b, a
		}
		return s.moved(b, a.N, a.Obj == 0)
	case api.REq, api.RNe:
		return s.matched(op, a, b)
	case api.RSub:
		if p && !q {
			return s.moved(a, -b.N, true)
		}
	case api.RLt, api.RLtU, api.RLe, api.RLeU:
	default:
		return api.Val{}, false
	}
	n, _ := num.Bin(op, a.N, b.N)
	return told(n, a.Obj == b.Obj && !s.object(a).gone)
}

func (s *scene) moved(p api.Val, by int64, ok bool) (api.Val, bool) {
	p.N += by
	o := s.object(p)
	if !ok || o.gone || p.N < 0 || p.N > o.bytes {
		return api.Val{}, false
	}
	return p, true
}

func (s *scene) matched(op int, a, b api.Val) (api.Val, bool) {
	differ, _ := num.Bin(op, 0, 1)
	if a.Obj == 0 || b.Obj == 0 {
		return told(differ, a == number(0) || b == number(0))
	}
	o, q := s.object(a), s.object(b)
	if a.Obj == b.Obj {
		n, _ := num.Bin(op, a.N, b.N)
		return told(n, !o.gone)
	}
	return told(differ, !o.gone && !q.gone && a.N < o.bytes && b.N < q.bytes)
}
