package lower_test

import (
	"testing"

	"gantlet/api"
	"gantlet/check"
	"gantlet/parse"
	"gantlet/sample"
)

// made holds of many programs made at random what P8.1 and P8.2 say, and tells how often the model
// ends how.
func made(t *testing.T, of func(seed uint64) string, count int) map[int]int {
	t.Helper()
	kinds := map[int]int{}
	for i := range count {
		seed := uint64(i + 1)
		s := of(seed * 0x9e3779b97f4a7c15)
		u, f := parse.Parse(s)
		if f.Err == 0 {
			_, f = check.Check(u)
		}
		if f.Err != 0 {
			kinds[api.ONone]++
			continue
		}
		o, steps := holds(t, s, int64(seed%7), -1, int64(seed))
		kinds[o.Kind]++
		if o.Kind == api.OExit && steps > 3*(o.Steps+10) {
			t.Errorf("%q: %d of %d steps", s, steps, o.Steps)
		}
	}
	return kinds
}

// TestMade is of P8.1 and P8.2: programs of all statements, with pointers that may lead anywhere.
func TestMade(t *testing.T) {
	t.Parallel()
	if kinds := made(t, sample.Made, 500); kinds[api.OExit] < 100 || kinds[api.OFuel] < 100 || kinds[api.OOver] < 20 || kinds[api.ONone] > 10 {
		t.Errorf("%v", kinds)
	}
}

// TestTyped is of P8.1 and P8.2: programs with integers of all kinds, hardly any of them stuck.
func TestTyped(t *testing.T) {
	t.Parallel()
	if kinds := made(t, sample.Typed, 500); kinds[api.OExit] < 250 || kinds[api.OFuel] < 50 || kinds[api.OOver] < 30 || kinds[api.OStuck] > 10 || kinds[api.ONone] > 5 {
		t.Errorf("%v", kinds)
	}
}
