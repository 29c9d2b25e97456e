package fold_test

import (
	"math"
	"testing"

	"gantlet/api"
	"gantlet/fold"
	"gantlet/tree"
)

const (
	least = math.MinInt64
	most  = math.MaxInt64
)

func con(n int64) api.Tree { return api.Tree{Op: api.RCon, N: n} }
func tmp(n int64) api.Tree { return api.Tree{Op: api.RTmp, N: n} }
func glo(n int64) api.Tree { return api.Tree{Op: api.RGlo, N: n} }
func loc(n int64) api.Tree { return api.Tree{Op: api.RLoc, N: n} }

// of is a tree of an op and kids.
func of(op int, kids ...api.Tree) api.Tree {
	return api.Tree{Op: op, Kids: append([]api.Tree{}, kids...)}
}

// tr is the tree of a text.
func tr(s string) api.Tree {
	t, err := tree.Parse(s)
	if err != api.OK {
		panic("no tree: " + s)
	}
	return t
}

func text(t api.Tree) string {
	s, err := tree.Text(t)
	if err != api.OK {
		return "no tree that may be"
	}
	return s
}

func nodes(t api.Tree) int {
	n := 1
	for _, k := range t.Kids {
		n += nodes(k)
	}
	return n
}

// folded tells what becomes of a tree that may be, and holds of that what hangs on no scene.
func folded(t *testing.T, x api.Tree) api.Tree {
	t.Helper()
	y, err := fold.Fold(x)
	if err != api.OK || tree.Check(y) != api.OK {
		t.Fatalf("%s: %d, %s", text(x), err, text(y))
	}
	if nodes(y) > nodes(x) {
		t.Errorf("%s: %s, of more nodes", text(x), text(y))
	}
	if n, err := tree.Eval(x); err == api.OK && text(y) != text(con(n)) {
		t.Errorf("%s: %s; should be %s", text(x), text(y), text(con(n)))
	}
	z, err := fold.Fold(y)
	if err != api.OK || nodes(z) > nodes(y) {
		t.Errorf("%s: %s, and then %d, %s", text(x), text(y), err, text(z))
	}
	return y
}

// alike holds that y tells what x does in a scene, if x tells something; whether it does is told.
func alike(t *testing.T, s *scene, x, y api.Tree) bool {
	t.Helper()
	want, ok := s.told(x)
	got, isTold := s.told(y)
	if ok && (!isTold || got != want) {
		t.Errorf("%s: %s tells %v, %v; should tell %v (temporaries %v)", text(x), text(y), got, isTold, want, s.temps)
	}
	return ok
}

// mix tells numbers from 0 to below n, without any order that is to be seen, the same each time.
func mix(seed uint64) func(n int) int {
	return func(n int) int {
		seed ^= seed << 13
		seed ^= seed >> 7
		seed ^= seed << 17
		return int(seed >> 11 % uint64(n))
	}
}

// edges are numbers at which widths, signs and counts of shifts turn.
var edges = []int64{
	0, 1, 2, 3, 4, 5, 7, 8, 9, 15, 16, 24, 31, 32, 33, 48, 56, 62, 63, 64, 65, 127, 128, 129, 255, 256, 257, 32767, 32768, 65535, 65536,
	math.MaxInt32, math.MaxInt32 + 1, math.MaxUint32, math.MaxUint32 + 1, 1 << 62, most - 1, most,
	-1, -2, -3, -4, -7, -8, -16, -63, -64, -65, -127, -128, -129, -255, -256, -32768, -32769, -65536, math.MinInt32, math.MinInt32 - 1, -math.MaxUint32 - 1, least + 1, least,
}
