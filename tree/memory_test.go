package tree_test

import (
	"slices"
	"strings"
	"sync"
	"testing"

	"gantlet/api"
	"gantlet/tree"
)

// roomy tells t anew, with three more nodes in each list's spare room.
func roomy(t api.Tree) api.Tree {
	kids := make([]api.Tree, 0, len(t.Kids)+3)
	for _, k := range t.Kids {
		kids = append(kids, roomy(k))
	}
	for i := range 3 {
		kids[:cap(kids)][len(kids)+i] = con(int64(70 + i))
	}
	return api.Tree{Op: t.Op, N: t.N, Kids: kids}
}

// whole tells all of a tree, with the spare room of its lists.
func whole(t api.Tree) string {
	s := show(api.Tree{Op: t.Op, N: t.N})
	for i, k := range t.Kids[:cap(t.Kids)] {
		if i == len(t.Kids) {
			s += " spare"
		}
		s += "<" + whole(k) + ">"
	}
	return s
}

// samples are trees that may be, and some that may not.
func samples() []api.Tree {
	l := []api.Tree{{}, {Op: api.RTmp, N: -1}, of(api.RAdd, con(1)), of(api.RExt8, con(1), con(2)), of(api.RAdd, con(1), of(api.RLoad8)), broad(api.MaxTree + 1), {Op: api.RZext32 + 1}}
	for _, k := range kinds {
		l = append(l, filled(k.op, con(-5)), filled(k.op, filled(k.op, api.Tree{Op: api.RLoc, N: 2})))
	}
	below := mix(77777777777)
	for i := range 60 {
		l = append(l, made(below, 1+i, isAny), made(below, 1+i, isPure))
	}
	return l
}

// told tells what all calls tell of a tree.
func told(x api.Tree) string {
	n, e := tree.Size(x)
	pure, f := tree.Pure(x)
	v, g := tree.Eval(x)
	s, h := tree.Text(x)
	p := int64(0)
	if pure {
		p = 1
	}
	return s + show(api.Tree{Op: n, N: v, Kids: []api.Tree{con(p), con(int64(tree.Check(x))), con(int64(e)), con(int64(f)), con(int64(g)), con(int64(h))}})
}

// TestStays is of R1 and R2: what is handed in stays as it was, spare room too, and the same is
// told each time, also of what is the same but for its memory.
func TestStays(t *testing.T) {
	for _, x := range samples() {
		y := roomy(x)
		before := whole(y)
		want := told(x)
		for range 3 {
			if got := told(y); got != want || whole(y) != before {
				t.Errorf("%s: %s; should be %s", before, got, want)
			}
		}
		if told(x) != want {
			t.Errorf("%s is not the same again", show(x))
		}
	}
}

// lists tells each list of a tree.
func lists(t api.Tree) [][]api.Tree {
	l := [][]api.Tree{t.Kids}
	for _, k := range t.Kids {
		l = append(l, lists(k)...)
	}
	return l
}

// TestNewMemory is of R2: no two lists of what is told share memory, spare room too, of one
// tree or of two.
func TestNewMemory(t *testing.T) {
	for _, x := range samples() {
		s, err := tree.Text(x)
		if err != api.OK {
			continue
		}
		a, _ := tree.Parse(s)
		b, _ := tree.Parse(s)
		seen := map[*api.Tree]int{}
		for _, l := range slices.Concat(lists(a), lists(b)) {
			for i := range cap(l) {
				seen[&l[:cap(l)][i]]++
				if seen[&l[:cap(l)][i]] > 1 {
					t.Fatalf("%q: two lists share memory", s)
				}
			}
		}
		for _, l := range lists(a) {
			for i := range cap(l) {
				l[:cap(l)][i] = con(99)
			}
		}
		c, err := tree.Parse(s)
		if show(b) != show(x) || show(c) != show(x) || err != api.OK {
			t.Errorf("%q: %s, %s", s, show(b), show(c))
		}
	}
}

// TestAtOneTime is of R1: calls at the same time tell what each tells alone.
func TestAtOneTime(t *testing.T) {
	l := samples()
	var alone []string
	for _, x := range l {
		alone = append(alone, told(x))
	}
	var all sync.WaitGroup
	for range 8 {
		all.Go(func() {
			for i, x := range l {
				if told(x) != alone[i] {
					t.Errorf("%s: not as alone", show(x))
				}
				s := textOf(con(int64(i)))
				if y, err := tree.Parse(s); show(y) != show(con(int64(i))) || err != api.OK {
					t.Errorf("%q: %s, %d", s, show(y), err)
				}
			}
		})
	}
	all.Wait()
}

// TestTextIsNew is of R2: what a text was made of may change, the text does not.
func TestTextIsNew(t *testing.T) {
	x := of(api.RAdd, con(1), of(api.RExt8, con(2)))
	s, _ := tree.Text(x)
	x.Kids[0], x.Kids[1].Kids[0] = con(7), con(8)
	again, _ := tree.Text(x)
	if s != "add(con(1), ext8(con(2)))" || again != "add(con(7), ext8(con(8)))" {
		t.Errorf("%q, %q", s, again)
	}
	bytes := []byte(strings.Repeat("ext8(", 3) + "con(5)" + ")))")
	y, _ := tree.Parse(string(bytes))
	clear(bytes)
	if show(y) != show(of(api.RExt8, of(api.RExt8, of(api.RExt8, con(5))))) {
		t.Error(show(y))
	}
}
