package opt

import "gantlet/api"

// scan finds out what is known where each block of a function begins. It takes first what it finds on
// one way, and takes back what does not hold on others.
type scan struct {
	*forest
	graph   api.Graph
	notes   []note
	private locals
	ahead   []state // of each block that was found
	found   []bool
	work    []int // blocks of which less is known than when they were gone through last
	waits   []bool
	losses  []int     // how often less was known of a block than before
	begins  [][]label // of each block's begin and each temporary: what comes from there
}

// patience is how often what is known of a block may become less: then nothing is known. So a function of
// many blocks and temporaries takes no time beyond measure.
const patience = 12

func newScan(g api.Graph, notes []note) *scan {
	s := surveyOf(newForest(), g)
	n := len(g.Blocks)
	return &scan{
		forest: newForest(), graph: g, notes: notes, private: s.private(),
		ahead: make([]state, n), found: make([]bool, n), waits: make([]bool, n), losses: make([]int, n), begins: make([][]label, n),
	}
}

// start tells what is known where the function begins.
func (c *scan) start() state {
	s := state{make([]label, c.graph.Temps), map[cell]label{}, map[label]label{}}
	for i := range s.temps {
		s.temps[i] = c.con(0)
		if i < c.graph.Params {
			s.temps[i] = c.leaf(origin{outside, 0, i})
		}
	}
	return s
}

// all goes through the function until all that is taken to be known holds.
func (c *scan) all() {
	c.arrive(way{entry, c.start()})
	for len(c.work) > 0 {
		i := c.work[0]
		c.work = c.work[1:]
		c.waits[i] = false
		w := walk{scan: c, state: c.ahead[i].again(), block: i}
		_, ways := w.through(c.graph.Blocks[i])
		for _, way := range ways {
			c.arrive(way)
		}
	}
}

// arrive takes into account what is known on a way to a block.
func (c *scan) arrive(w way) {
	less := !c.found[w.to]
	if less {
		c.ahead[w.to] = w.state
		c.found[w.to] = true
	} else {
		less = c.meet(w)
	}
	if less {
		c.losses[w.to]++
	}
	if c.losses[w.to] == patience {
		c.forget(w.to)
	}
	if less && !c.waits[w.to] {
		c.waits[w.to] = true
		c.work = append(c.work, w.to)
	}
}

// meet leaves what is known both ways at the begin of a block, and tells whether that is less than it
// was. What a temporary may have from here or from there comes from that begin.
func (c *scan) meet(w way) bool {
	less := false
	s := c.ahead[w.to]
	for i, l := range s.temps {
		if l == w.temps[i] {
			continue
		}
		s.temps[i] = c.begin(w.to, i)
		less = less || s.temps[i] != l
	}
	fewerCells, fewerKnown := leave(s.cells, w.cells), leave(s.known, w.known)
	return less || fewerCells || fewerKnown
}

// forget leaves nothing that is known at the begin of a block.
func (c *scan) forget(block int) {
	s := c.ahead[block]
	for i := range s.temps {
		s.temps[i] = c.begin(block, i)
	}
	clear(s.cells)
	clear(s.known)
}

// begin tells what a temporary has at the begin of a block, as a value that comes from there.
func (c *scan) begin(block, temp int) label {
	if c.begins[block] == nil {
		c.begins[block] = make([]label, c.graph.Temps)
	}
	l := &c.begins[block][temp]
	if *l == none {
		*l = c.fresh()
	}
	return *l
}
