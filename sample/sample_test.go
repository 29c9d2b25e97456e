package sample_test

import (
	"testing"

	"gantlet/api"
	"gantlet/check"
	"gantlet/model"
	"gantlet/parse"
	"gantlet/sample"
)

// ended tells how often programs end how; ONone: they do not check.
func ended(t *testing.T, of func(seed uint64) string) map[int]int {
	t.Helper()
	kinds := map[int]int{}
	for seed := uint64(1); seed < 300; seed++ {
		s := of(seed)
		if of(seed) != s {
			t.Errorf("%d tells two programs", seed)
		}
		u, f := parse.Parse(s)
		if f.Err == 0 {
			u, f = check.Check(u)
		}
		o, _ := model.Run(u, []int64{1, 2, 3}, api.MaxFuel)
		if f.Err != 0 {
			o.Kind = api.ONone
		}
		kinds[o.Kind]++
	}
	return kinds
}

// TestMade: programs that end in all ways.
func TestMade(t *testing.T) {
	if kinds := ended(t, sample.Made); kinds[api.OExit] < 80 || kinds[api.OFuel] < 50 || kinds[api.OStuck] < 50 || kinds[api.OOver] < 10 || kinds[api.ONone] > 5 {
		t.Errorf("%v", kinds)
	}
}

// TestTyped: programs that are hardly ever stuck.
func TestTyped(t *testing.T) {
	if kinds := ended(t, sample.Typed); kinds[api.OExit] < 150 || kinds[api.OFuel] < 30 || kinds[api.OOver] < 15 || kinds[api.OStuck] > 5 || kinds[api.ONone] > 2 {
		t.Errorf("%v", kinds)
	}
}
