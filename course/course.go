// Package course: how far a program has come that is told step by step. Chapters 5 and 7 count its
// steps and calls alike, and tell likewise how it ends.
package course

import "gantlet/api"

// maxCalls is how many there may be at the same time.
const maxCalls = 64

// Course is that of one program. Once it has ended, what was under way may go on to its own end,
// but of that nothing is seen: no step is counted, nothing put out, and no other end told.
type Course struct {
	in    []int64
	fuel  int
	calls int
	seen  api.Outcome
}

// Begin tells a course ahead of its first step. In is read for as long as it goes on.
func Begin(in []int64, fuel int) Course {
	return Course{in: in, fuel: fuel}
}

// Outcome tells how it has ended.
func (c *Course) Outcome() api.Outcome {
	if c.seen.Kind == api.OStuck {
		return api.Outcome{Kind: api.OStuck}
	}
	return c.seen
}

// Ended tells whether it has.
func (c *Course) Ended() bool {
	return c.seen.Kind != api.ONone
}

// End ends it.
func (c *Course) End(kind int, code int64) {
	if !c.Ended() {
		c.seen.Kind, c.seen.Code = kind, code
	}
}

// Require is stuck where something does not hold.
func (c *Course) Require(holds bool) {
	if !holds {
		c.End(api.OStuck, 0)
	}
}

// Count counts steps ahead of what they do, and tells whether that may be done.
func (c *Course) Count(steps int) bool {
	if c.Ended() {
		return false
	}
	if steps > c.fuel-c.seen.Steps {
		c.seen.Steps = c.fuel
		c.End(api.OFuel, 0)
		return false
	}
	c.seen.Steps += steps
	return true
}

// Put puts a number out.
func (c *Course) Put(n int64) {
	if !c.Ended() {
		c.seen.Out = append(c.seen.Out, n)
	}
}

// Get tells the next of what comes in, 0 behind that.
func (c *Course) Get() int64 {
	if len(c.in) == 0 {
		return 0
	}
	n := c.in[0]
	c.in = c.in[1:]
	return n
}

// Enter begins a call whose objects have so many elements, and tells whether it may go on.
func (c *Course) Enter(elements int) bool {
	if c.calls == maxCalls {
		c.End(api.OOver, 0)
	}
	if c.Ended() {
		return false
	}
	c.calls++
	c.seen.Deep = max(c.seen.Deep, c.calls)
	return c.Count(elements)
}

// Leave ends the call that was begun last.
func (c *Course) Leave() {
	c.calls--
}
