package model_test

import (
	"testing"

	"gantlet/api"
	"gantlet/check"
	"gantlet/model"
	"gantlet/parse"
	"gantlet/sample"
)

// TestSecondModel is of P5.1: of programs made at random both models tell the same, with whatever
// fuel; and of P5.2.
func TestSecondModel(t *testing.T) {
	kinds, longs, faulty := map[int]int{}, 0, map[int]int{}
	for seed := uint64(1); seed < 800; seed++ {
		s := sample.Made(seed * 0x9e3779b97f4a7c15)
		u, f := parse.Parse(s)
		if f.Err == int(api.OK) {
			u, f = check.Check(u)
		}
		if f.Err != int(api.OK) {
			faulty[f.Err]++
			continue
		}
		in := []int64{int64(seed % 7), -1, int64(seed)}
		o := compared(t, s, u, in, api.MaxFuel)
		kinds[o.Kind]++
		if o.Steps > 100 {
			longs++
		}
		for i := range 4 {
			least := compared(t, s, u, in, o.Steps*i/4)
			if o.Kind != api.OStuck && !isBeginning(least.Out, o.Out) {
				t.Errorf("%q: %s, but with less %s", s, show(o), show(least))
			}
		}
		if o.Kind == api.OExit || o.Kind == api.OOver {
			if p := compared(t, s, u, in, o.Steps); !same(p, o) {
				t.Errorf("%q: %s, but with just that %s", s, show(o), show(p))
			}
		}
	}
	if kinds[api.OExit] < 200 || kinds[api.OFuel] < 200 || kinds[api.OStuck] < 200 || kinds[api.OOver] < 40 || longs < 300 || len(kinds) > 4 || faulty[int(api.ErrLimit)] > 5 || len(faulty) > 1 {
		t.Errorf("%v, %d, %v", kinds, longs, faulty)
	}
}

// compared tells an outcome, and holds it against the other model's.
func compared(t *testing.T, s string, u api.Unit, in []int64, fuel int) api.Outcome {
	t.Helper()
	got, err := model.Run(u, in, fuel)
	if want := walked(u, in, fuel); err != api.OK || !same(got, want) {
		t.Errorf("%q, %v, %d: %s, %d; should be %s", s, in, fuel, show(got), err, show(want))
	}
	return got
}
