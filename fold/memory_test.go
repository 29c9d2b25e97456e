package fold_test

import (
	"fmt"
	"sync"
	"testing"

	"gantlet/api"
	"gantlet/fold"
)

// roomy tells a tree anew, with two more nodes in each list's spare room.
func roomy(x api.Tree) api.Tree {
	kids := make([]api.Tree, 0, len(x.Kids)+2)
	for _, k := range x.Kids {
		kids = append(kids, roomy(k))
	}
	for i := range 2 {
		kids[:cap(kids)][len(kids)+i] = con(int64(70 + i))
	}
	return api.Tree{Op: x.Op, N: x.N, Kids: kids}
}

// whole tells all of a tree, with the spare room of its lists.
func whole(x api.Tree) string {
	s := fmt.Sprint(x.Op, x.N, len(x.Kids), "(")
	for _, k := range x.Kids[:cap(x.Kids)] {
		s += whole(k)
	}
	return s + ")"
}

// samples are trees that become smaller, some that stay, and some that may not be.
func samples() []api.Tree {
	l := []api.Tree{{}, of(api.RAdd, con(1)), tmp(0), con(3), of(api.RLoad32, of(api.RAdd, glo(0), con(4)))}
	below := mix(77)
	for i := range 300 {
		l = append(l, made(below, 1+i%40))
	}
	x := of(api.RLoad32, of(api.RAdd, glo(0), con(4)))
	return append(l, of(api.RMul, x, x), of(api.RSub, of(api.RAdd, x, tmp(0)), tmp(0)), of(api.RXor, of(api.RMul, x, tmp(1)), of(api.RDiv, x, x)), of(api.RAdd, x, con(0)), of(api.RZext32, x))
}

// TestStaysAsItWas is of P9.1, by R1 and R2: what is handed in stays as it was, spare room too, and
// the same is told each time.
func TestStaysAsItWas(t *testing.T) {
	for _, x := range samples() {
		y := roomy(x)
		before := whole(y)
		a, err := fold.Fold(x)
		for range 2 {
			b, e := fold.Fold(y)
			if text(a) != text(b) || e != err || whole(y) != before {
				t.Errorf("%s: %s, %d; should be %s, %d", text(x), text(b), e, text(a), err)
			}
		}
	}
}

// lists tells each list of a tree.
func lists(x api.Tree) [][]api.Tree {
	l := [][]api.Tree{x.Kids}
	for _, k := range x.Kids {
		l = append(l, lists(k)...)
	}
	return l
}

// TestNewMemory is of P9.1, by R2: no two lists share memory, spare room too, of what is handed in and
// of what is told once and once more.
func TestNewMemory(t *testing.T) {
	for _, x := range samples() {
		x = roomy(x)
		a, _ := fold.Fold(x)
		b, err := fold.Fold(x)
		if err != api.OK {
			continue
		}
		seen := map[*api.Tree]bool{}
		for _, l := range append(append(lists(x), lists(a)...), lists(b)...) {
			for i := range cap(l) {
				if seen[&l[:cap(l)][i]] {
					t.Fatalf("%s: two lists share memory", text(x))
				}
				seen[&l[:cap(l)][i]] = true
			}
		}
		want := text(b)
		for _, l := range append(lists(a), lists(x)...) {
			for i := range cap(l) {
				l[:cap(l)][i] = con(99)
			}
		}
		if text(b) != want {
			t.Errorf("%s; was %s", text(b), want)
		}
	}
}

// TestSharedMemory is of P9.1, by R2: of what shares memory comes what shares none.
func TestSharedMemory(t *testing.T) {
	kid := of(api.RLoad32, of(api.RAdd, glo(0), con(4)))
	shared := []api.Tree{kid, tmp(1)}
	x := api.Tree{Op: api.RDiv, Kids: []api.Tree{{Op: api.RRem, Kids: shared}, {Op: api.RMul, Kids: shared}}}
	y, err := fold.Fold(x)
	seen := map[*api.Tree]bool{}
	for _, l := range lists(y) {
		for i := range l {
			if seen[&l[i]] {
				t.Fatal("two lists share memory")
			}
			seen[&l[i]] = true
		}
	}
	if err != api.OK || text(y) != text(x) {
		t.Errorf("%s, %d; should be %s", text(y), err, text(x))
	}
}

// TestAtOneTime is of R1: calls at the same time tell what each tells alone.
func TestAtOneTime(t *testing.T) {
	l := samples()
	var alone []string
	for _, x := range l {
		y, _ := fold.Fold(x)
		alone = append(alone, text(y))
	}
	var all sync.WaitGroup
	for range 8 {
		all.Go(func() {
			for i, x := range l {
				if y, _ := fold.Fold(x); text(y) != alone[i] {
					t.Errorf("%s: %s; alone %s", text(x), text(y), alone[i])
				}
			}
		})
	}
	all.Wait()
}
