package lower_test

import (
	"fmt"
	"slices"
	"strconv"
	"strings"
	"testing"

	"gantlet/api"
	"gantlet/check"
	"gantlet/graph"
	"gantlet/lower"
	"gantlet/model"
	"gantlet/parse"
)

// checked tells the unit that s is, with all that a check fills in.
func checked(t *testing.T, s string) api.Unit {
	t.Helper()
	u, f := parse.Parse(s)
	if f != (api.Fault{}) {
		t.Fatalf("%q does not parse: %+v", s, f)
	}
	u, f = check.Check(u)
	if f != (api.Fault{}) {
		t.Fatalf("%q does not check: %+v", s, f)
	}
	return u
}

// lowered tells what a unit is lowered to, which must be a program that may be.
func lowered(t *testing.T, s string, u api.Unit) api.Prog {
	t.Helper()
	p, err := lower.Lower(u)
	if err != api.OK || graph.Check(p) != api.OK {
		t.Fatalf("%q: %d, %d", s, err, graph.Check(p))
	}
	return p
}

// whole tells all of a unit, or of a program; a nil list and an empty one are one there.
func whole(v any) string { return fmt.Sprintf("%+v", v) }

var outcomes = strings.Fields("none exit fuel stuck over fault")

func numbers(l []int64) string {
	var s []string
	for _, n := range l {
		s = append(s, strconv.FormatInt(n, 10))
	}
	return strings.Join(s, " ")
}

// show tells how something ends, and what was put out.
func show(o api.Outcome) string {
	return outcomes[o.Kind] + " " + strconv.FormatInt(o.Code, 10) + " [" + numbers(o.Out) + "]"
}

// fuelOf is what P8.1 says of so many steps.
func fuelOf(steps int) int { return 20 * (steps + 10) }

func ran(t *testing.T, p api.Prog, in []int64, fuel int) api.Outcome {
	t.Helper()
	o, err := graph.Run(p, in, fuel)
	if err != api.OK {
		t.Fatalf("%d", err)
	}
	return o
}

func meant(t *testing.T, u api.Unit, in []int64, fuel int) api.Outcome {
	t.Helper()
	o, err := model.Run(u, in, fuel)
	if err != api.OK {
		t.Fatalf("%d", err)
	}
	return o
}

func isBeginning(a, b []int64) bool {
	return len(a) <= len(b) && slices.Equal(a, b[:len(a)])
}

// holds holds of s all that P8.1 and P8.2 say, and that calls are as deep as in the model; it tells
// the model's outcome, and how many steps the program took.
func holds(t *testing.T, s string, in ...int64) (api.Outcome, int) {
	t.Helper()
	u := checked(t, s)
	p := lowered(t, s, u)
	o := meant(t, u, in, api.MaxFuel)
	fuel := fuelOf(o.Steps)
	if o.Kind == api.OFuel {
		fuel = 3 * o.Steps // what takes more than that is seen in TestMade
	}
	g := ran(t, p, in, fuel)
	switch o.Kind {
	case api.OExit, api.OOver:
		if show(g) != show(o) || g.Deep != o.Deep {
			t.Errorf("%q, %v: %s, %d deep; should be %s, %d deep", s, in, show(g), g.Deep, show(o), o.Deep)
		}
		for _, n := range []int{0, 1, g.Steps / 3, g.Steps - 1} {
			if less := ran(t, p, in, max(0, n)); n < g.Steps && (less.Kind != api.OFuel || !isBeginning(less.Out, o.Out)) {
				t.Errorf("%q, %v: with %d %s; should be fuel, of %s", s, in, n, show(less), show(o))
			}
		}
	case api.OFuel:
		if !isBeginning(o.Out, g.Out) && g.Kind != api.OStuck {
			t.Errorf("%q, %v: %s; should begin as %s", s, in, show(g), show(o))
		}
	}
	if o.Kind != api.OStuck {
		beginnings(t, s, u, p, in, o)
	}
	return o, g.Steps
}

// beginnings is P8.2: with as much fuel as a model that has not ended. What the program has put out
// may be more than the longest model's.
func beginnings(t *testing.T, s string, u api.Unit, p api.Prog, in []int64, longest api.Outcome) {
	t.Helper()
	for i := range 4 {
		fuel := longest.Steps * i / 4
		o, g := meant(t, u, in, fuel), ran(t, p, in, fuel)
		ahead := longest.Kind == api.OFuel && isBeginning(longest.Out, g.Out)
		if o.Kind == api.OFuel && !isBeginning(g.Out, longest.Out) && !ahead {
			t.Errorf("%q, %v: with %d %s; should be of %s", s, in, fuel, show(g), show(longest))
		}
	}
}

// ends holds that s ends so, in the model and lowered.
func ends(t *testing.T, s, want string, in ...int64) {
	t.Helper()
	if o, _ := holds(t, s, in...); show(o) != want {
		t.Errorf("%q: %s; should be %s", s, show(o), want)
	}
}

// puts holds that s ends with 0, and what it has put out.
func puts(t *testing.T, s, want string, in ...int64) {
	t.Helper()
	ends(t, s, "exit 0 ["+want+"]", in...)
}

// mainPuts holds likewise of statements in main, with declarations ahead of it.
func mainPuts(t *testing.T, decls, body, want string, in ...int64) {
	t.Helper()
	puts(t, decls+"int main(){"+body+"}", want, in...)
}
