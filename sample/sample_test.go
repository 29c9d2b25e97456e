package sample_test

import (
	"reflect"
	"testing"

	"gantlet/api"
	"gantlet/check"
	"gantlet/graph"
	"gantlet/model"
	"gantlet/parse"
	"gantlet/sample"
)

// ended tells how often programs end how; ONone: they do not check.
func ended(t *testing.T, of func(seed uint64) string) map[int]int {
	t.Helper()
	kinds := map[int]int{}
	for seed := uint64(1); seed < 300; seed++ {
		s := of(seed)
		if of(seed) != s {
			t.Errorf("%d tells two programs", seed)
		}
		u, f := parse.Parse(s)
		if f.Err == 0 {
			u, f = check.Check(u)
		}
		o, _ := model.Run(u, []int64{1, 2, 3}, api.MaxFuel)
		if f.Err != 0 {
			o.Kind = api.ONone
		}
		kinds[o.Kind]++
	}
	return kinds
}

// TestMade: programs that end in all ways.
func TestMade(t *testing.T) {
	if kinds := ended(t, sample.Made); kinds[api.OExit] < 80 || kinds[api.OFuel] < 50 || kinds[api.OStuck] < 50 || kinds[api.OOver] < 10 || kinds[api.ONone] > 5 {
		t.Errorf("%v", kinds)
	}
}

// TestTyped: programs that are hardly ever stuck.
func TestTyped(t *testing.T) {
	if kinds := ended(t, sample.Typed); kinds[api.OExit] < 150 || kinds[api.OFuel] < 30 || kinds[api.OOver] < 15 || kinds[api.OStuck] > 5 || kinds[api.ONone] > 2 {
		t.Errorf("%v", kinds)
	}
}

// graphs tells how often programs of the middle language end how, and holds that they may be.
func graphs(t *testing.T, of func(below func(int) int) api.Prog) map[int]int {
	t.Helper()
	kinds := map[int]int{}
	for seed := uint64(1); seed < 1000; seed++ {
		p := of(sample.Mix(seed * 0x9e3779b97f4a7c15))
		o, err := graph.Run(p, []int64{1, 2, 3, 0, 1}, 3000)
		if err != api.OK {
			t.Fatalf("%d may not be", seed)
		}
		if !reflect.DeepEqual(of(sample.Mix(seed*0x9e3779b97f4a7c15)), p) {
			t.Errorf("%d tells two programs", seed)
		}
		kinds[o.Kind]++
	}
	return kinds
}

// TestGraph: programs of the middle language that end in all ways.
func TestGraph(t *testing.T) {
	if kinds := graphs(t, sample.Graph); kinds[api.OExit] < 300 || kinds[api.OFuel] < 50 || kinds[api.OStuck] < 200 || kinds[api.OOver] < 20 {
		t.Errorf("%v", kinds)
	}
}

// TestTangle: programs of the middle language that are hardly ever stuck.
func TestTangle(t *testing.T) {
	if kinds := graphs(t, sample.Tangle); kinds[api.OExit] < 700 || kinds[api.OFuel] < 2 || kinds[api.OStuck] > 50 || kinds[api.OOver] < 50 {
		t.Errorf("%v", kinds)
	}
}
