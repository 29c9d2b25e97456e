package model_test

import (
	"slices"
	"strconv"
	"strings"
	"testing"

	"gantlet/api"
	"gantlet/check"
	"gantlet/model"
	"gantlet/parse"
)

// checked tells the unit that s is, with all that a check fills in.
func checked(t *testing.T, s string) api.Unit {
	t.Helper()
	u, f := parse.Parse(s)
	if f != (api.Fault{}) {
		t.Fatalf("%q does not parse: %+v", s, f)
	}
	u, f = check.Check(u)
	if f != (api.Fault{}) {
		t.Fatalf("%q does not check: %+v", s, f)
	}
	return u
}

// ran tells how s ends.
func ran(t *testing.T, s string, in []int64, fuel int) api.Outcome {
	t.Helper()
	o, err := model.Run(checked(t, s), in, fuel)
	if err != api.OK {
		t.Fatalf("%q: error %d", s, err)
	}
	return o
}

var outcomes = strings.Fields("none exit fuel stuck over fault")

func numbers(l []int64) string {
	var s []string
	for _, n := range l {
		s = append(s, strconv.FormatInt(n, 10))
	}
	return strings.Join(s, " ")
}

// show tells all of an outcome: Kind and Code, what was put out, steps and calls.
func show(o api.Outcome) string {
	return outcomes[o.Kind] + " " + strconv.FormatInt(o.Code, 10) + " [" + numbers(o.Out) + "] " + strconv.Itoa(o.Steps) + "/" + strconv.Itoa(o.Deep)
}

// ends holds that s, with much fuel, ends so: all of its outcome.
func ends(t *testing.T, s string, want string, in ...int64) {
	t.Helper()
	if got := show(ran(t, s, in, api.MaxFuel)); got != want {
		t.Errorf("%q: %s; should be %s", s, got, want)
	}
}

// stuck is the outcome of what is stuck: just the Kind is told.
const stuck = "stuck 0 [] 0/0"

// puts holds that s ends with 0 by itself, and what it has put out.
func puts(t *testing.T, s string, want string, in ...int64) {
	t.Helper()
	o := ran(t, s, in, api.MaxFuel)
	if got := numbers(o.Out); o.Kind != api.OExit || o.Code != 0 || got != want {
		t.Errorf("%q: %s; should be exit 0 [%s]", s, show(o), want)
	}
}

// mainPuts holds likewise of statements in main, with declarations ahead of it.
func mainPuts(t *testing.T, decls, body, want string, in ...int64) {
	t.Helper()
	puts(t, decls+"int main(){"+body+"}", want, in...)
}

// isStuck holds that statements in main are stuck, at their last one, and not ahead of it.
func isStuck(t *testing.T, decls, body string) {
	t.Helper()
	s := decls + "int main(){" + body + "}"
	if got := show(ran(t, s, nil, api.MaxFuel)); got != stuck {
		t.Errorf("%q: %s; should be stuck", s, got)
	}
	last := strings.LastIndex(strings.TrimRight(body, ";}"), ";") + 1
	s = decls + "int main(){" + body[:last] + "exit(7);" + body[last:] + "}"
	if o := ran(t, s, nil, api.MaxFuel); o.Kind != api.OExit || o.Code != 7 {
		t.Errorf("%q: %s; should be exit 7", s, show(o))
	}
}

// same tells whether two outcomes are the same.
func same(a, b api.Outcome) bool {
	return a.Kind == b.Kind && a.Code == b.Code && slices.Equal(a.Out, b.Out) && a.Steps == b.Steps && a.Deep == b.Deep
}
