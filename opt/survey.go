package opt

import "gantlet/api"

// access is a load or a store of an element.
type access struct {
	at   label
	op   int // of a load; RNone of a store
	size int
	wide bool // of a store: its value has as many nodes as a tree may have
}

// survey is how a function uses its locals.
type survey struct {
	*forest
	accesses []access
	told     locals // those whose places go elsewhere than to loads and stores
}

func surveyOf(f *forest, g api.Graph) survey {
	s := survey{forest: f}
	for _, b := range g.Blocks {
		for _, step := range b.Steps {
			s.step(step)
		}
		if b.End != api.EndJump {
			s.visit(f.take(b.Cond), false)
		}
	}
	return s
}

func (s *survey) step(step api.Step) {
	for i, t := range step.Args {
		at := s.take(t)
		isPlace := step.Op == api.GStore && i == 0
		if isPlace {
			wide := size(step.Args[1]) == api.MaxTree
			s.accesses = append(s.accesses, access{at, api.RNone, step.Size, wide})
		}
		s.visit(at, isPlace)
	}
}

// visit visits a tree, which may be the place of an access.
func (s *survey) visit(l label, isPlace bool) {
	p := s.of(l).node
	object := s.of(l).object
	switch {
	case p.op == api.RLoc && !isPlace:
		s.told |= s.of(l).locals
	case sizeOf(p.op) > 0:
		s.accesses = append(s.accesses, access{at: p.kids[0], op: p.op, size: sizeOf(p.op)})
		s.visit(p.kids[0], true)
		return
	}
	for _, k := range p.kids {
		if k != none {
			s.visit(k, isPlace && object != none && s.of(k).object == object)
		}
	}
}

// private tells the locals of which no place is ever known but where one is loaded or stored.
func (s *survey) private() locals {
	return ^s.told
}
