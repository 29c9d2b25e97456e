package opt

import (
	"slices"

	"gantlet/api"
)

// note is what is known of a function, whatever is told to it.
type note struct {
	called  bool // on some way from the begin of the program
	returns bool // on some way
	writes  bool // on some way, in memory that is not its own
	tells   answer
}

// answer is the number that a function returns whenever it does, if it is always the same.
type answer struct {
	isKnown bool
	n       int64
}

// notesOf tells what is known of each function. That one returns, and that one writes, is known of some
// others first.
func notesOf(p api.Prog) []note {
	notes := make([]note, len(p.Funcs))
	noteCalls(p, p.Main, notes)
	for i, g := range p.Funcs {
		notes[i].writes = writes(g)
		notes[i].tells = answerOf(g)
	}
	for again := true; again; {
		again = false
		for i, g := range p.Funcs {
			n := &notes[i]
			if !n.returns && returns(g, notes) {
				n.returns, again = true, true
			}
			if !n.writes && callsWriter(g, notes) {
				n.writes, again = true, true
			}
		}
	}
	return notes
}

// noteCalls notes that a function is called, and all that it calls.
func noteCalls(p api.Prog, fn int, notes []note) {
	if notes[fn].called {
		return
	}
	notes[fn].called = true
	for _, b := range p.Funcs[fn].Blocks {
		for _, s := range b.Steps {
			if s.Op == api.GCall {
				noteCalls(p, s.Fn, notes)
			}
		}
	}
}

// writes tells whether a function itself may store to what is not its own.
func writes(g api.Graph) bool {
	f := newForest()
	return hasStep(g, func(s api.Step) bool {
		return s.Op == api.GStore && f.of(f.of(f.take(s.Args[0])).object).op != api.RLoc
	})
}

func callsWriter(g api.Graph, notes []note) bool {
	return hasStep(g, func(s api.Step) bool { return s.Op == api.GCall && notes[s.Fn].writes })
}

func hasStep(g api.Graph, is func(api.Step) bool) bool {
	return slices.ContainsFunc(g.Blocks, func(b api.Block) bool { return slices.ContainsFunc(b.Steps, is) })
}

// answerOf tells what all returns of a function tell.
func answerOf(g api.Graph) answer {
	var a answer
	for _, b := range g.Blocks {
		switch {
		case b.End != api.EndReturn:
		case b.Cond.Op != api.RCon || a.isKnown && b.Cond.N != a.n:
			return answer{}
		default:
			a = answer{true, b.Cond.N}
		}
	}
	return a
}

// returns tells whether there is a way to a return on which all calls return, as far as it is noted.
func returns(g api.Graph, notes []note) bool {
	for _, i := range reached(g.Blocks, entry, notes) {
		b := g.Blocks[i]
		if b.End == api.EndReturn && lastOf(b, notes) == len(b.Steps) {
			return true
		}
	}
	return false
}
