package course_test

import (
	"slices"
	"testing"

	"gantlet/api"
	"gantlet/course"
)

func same(a, b api.Outcome) bool {
	return a.Kind == b.Kind && a.Code == b.Code && slices.Equal(a.Out, b.Out) && a.Steps == b.Steps && a.Deep == b.Deep
}

func holds(t *testing.T, c *course.Course, want api.Outcome) {
	t.Helper()
	if got := c.Outcome(); !same(got, want) || c.Ended() != (want.Kind != api.ONone) {
		t.Errorf("%+v; should be %+v", got, want)
	}
}

// TestFuel: steps are counted up to the fuel, and those that are too many fill it up.
func TestFuel(t *testing.T) {
	c := course.Begin(nil, 5)
	if !c.Count(3) || !c.Count(0) || !c.Count(2) || !c.Count(0) {
		t.Error("there is fuel")
	}
	holds(t, &c, api.Outcome{Steps: 5})
	if c.Count(1) {
		t.Error("there is no fuel")
	}
	holds(t, &c, api.Outcome{Kind: api.OFuel, Steps: 5})
	c = course.Begin(nil, 5)
	if !c.Count(3) || c.Count(3) || c.Count(1) || c.Count(0) {
		t.Error("there is fuel for 5")
	}
	holds(t, &c, api.Outcome{Kind: api.OFuel, Steps: 5})
}

// TestFirstEnd: the first end stays, and nothing is seen of what comes behind it.
func TestFirstEnd(t *testing.T) {
	c := course.Begin(nil, 9)
	c.Put(4)
	c.Count(2)
	c.Require(true)
	c.End(api.OExit, 7)
	c.Put(5)
	c.Require(false)
	c.End(api.OFuel, 8)
	if c.Count(1) || c.Enter(0) {
		t.Error("it has ended")
	}
	holds(t, &c, api.Outcome{Kind: api.OExit, Code: 7, Out: []int64{4}, Steps: 2})
}

// TestStuck: of what is stuck just the kind is told.
func TestStuck(t *testing.T) {
	c := course.Begin(nil, 9)
	c.Enter(2)
	c.Put(4)
	c.Require(false)
	c.End(api.OExit, 3)
	holds(t, &c, api.Outcome{Kind: api.OStuck})
}

// TestIn: one after the other, 0 behind them; what was handed in stays.
func TestIn(t *testing.T) {
	in := []int64{3, -4}
	c := course.Begin(in, 9)
	for _, want := range []int64{3, -4, 0, 0} {
		if n := c.Get(); n != want {
			t.Errorf("%d; should be %d", n, want)
		}
	}
	if !slices.Equal(in, []int64{3, -4}) {
		t.Error(in)
	}
}

// TestCalls: 64 at the same time, and how many there were at most.
func TestCalls(t *testing.T) {
	c := course.Begin(nil, 1000)
	for range 10 {
		if !c.Enter(3) {
			t.Error("10 may be")
		}
	}
	for range 9 {
		c.Leave()
	}
	holds(t, &c, api.Outcome{Steps: 30, Deep: 10})
	for range 63 {
		if !c.Enter(0) {
			t.Error("64 may be")
		}
	}
	holds(t, &c, api.Outcome{Steps: 30, Deep: 64})
	if c.Enter(5) {
		t.Error("65 may not be")
	}
	holds(t, &c, api.Outcome{Kind: api.OOver, Steps: 30, Deep: 64})
	c = course.Begin(nil, 2)
	if c.Enter(3) {
		t.Error("there is fuel for 2")
	}
	holds(t, &c, api.Outcome{Kind: api.OFuel, Steps: 2, Deep: 1})
}
