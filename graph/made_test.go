package graph_test

import (
	"testing"

	"gantlet/api"
	"gantlet/sample"
)

func of(op int, kids ...api.Tree) api.Tree { return api.Tree{Op: op, Kids: kids} }

// TestMade is of P7.1: programs made at random end as the second machine tells, with much fuel and with
// little.
func TestMade(t *testing.T) {
	below := mix(20261120)
	kinds := map[int]int{}
	deep, long := 0, 0
	for i := range 6000 {
		p := sample.Graph(below)
		in := []int64{int64(below(5)), edges[below(len(edges))], 7, int64(below(3)), 1}
		full := walked(p, in, 3000)
		kinds[full.Kind]++
		if full.Deep > 1 {
			deep++
		}
		if full.Kind == api.OExit && full.Steps > 40 {
			long++
		}
		for _, fuel := range []int{3000, full.Steps, full.Steps - 1, below(full.Steps + 1), below(50)} {
			if fuel < 0 {
				continue
			}
			if got, want := ran(t, p, in, fuel), walked(p, in, fuel); !same(got, want) {
				t.Fatalf("%d, %d: %s; should be %s", i, fuel, show(got), show(want))
			}
		}
	}
	if kinds[api.OExit] < 1000 || kinds[api.OStuck] < 1000 || kinds[api.OFuel] < 100 || kinds[api.OOver] < 10 || deep < 500 || long < 100 {
		t.Errorf("%v, %d call, %d are long", kinds, deep, long)
	}
}
