package graph_test

import (
	"fmt"
	"reflect"
	"slices"
	"sync"
	"testing"

	"gantlet/api"
	"gantlet/graph"
)

// whole tells all of a program; a nil list and an empty one are one there.
func whole(p api.Prog) string { return fmt.Sprintf("%+v", p) }

// roomy tells v anew, with two more things in each list's spare room.
func roomy(v reflect.Value) reflect.Value {
	x := reflect.New(v.Type()).Elem()
	x.Set(v)
	switch v.Kind() {
	case reflect.Struct:
		for i := range v.NumField() {
			x.Field(i).Set(roomy(v.Field(i)))
		}
	case reflect.Slice:
		n := v.Len()
		x = reflect.MakeSlice(v.Type(), n+2, n+2)
		for i := range n {
			x.Index(i).Set(roomy(v.Index(i)))
		}
		fill(x.Index(n))
		fill(x.Index(n + 1))
		x = x.Slice(0, n)
	}
	return x
}

// fill makes numbers of what is at the top of v.
func fill(v reflect.Value) {
	switch v.Kind() {
	case reflect.Int, reflect.Int64:
		v.SetInt(77)
	case reflect.Struct:
		for i := range v.NumField() {
			fill(v.Field(i))
		}
	}
}

// withRoom tells all of v, with the spare room of its lists.
func withRoom(v reflect.Value) string {
	switch v.Kind() {
	case reflect.Struct:
		s := "{"
		for i := range v.NumField() {
			s += withRoom(v.Field(i)) + " "
		}
		return s + "}"
	case reflect.Slice:
		s := fmt.Sprint(v.Len(), "[")
		for i := range v.Cap() {
			s += withRoom(v.Slice(0, v.Cap()).Index(i)) + " "
		}
		return s + "]"
	}
	return fmt.Sprint(v.Interface())
}

// TestStays is of R1 and R2: what is handed in stays as it was, spare room too, and the same is
// told each time, also of what is the same but for its memory.
func TestStays(t *testing.T) {
	for i, p := range samples() {
		q := roomy(reflect.ValueOf(p)).Interface().(api.Prog)
		before := withRoom(reflect.ValueOf(q))
		in := append(make([]int64, 0, 9), 3, 1, 4)
		room := in[:9]
		want := show(ran(t, p, []int64{3, 1, 4}, 900))
		for range 3 {
			o := ran(t, q, in, 900)
			if show(o) != want {
				t.Errorf("%d: %s; should be %s", i, show(o), want)
			}
			spare := o.Out[:cap(o.Out)]
			for j := range spare {
				spare[j] = 55
			}
		}
		if withRoom(reflect.ValueOf(q)) != before || !slices.Equal(room, []int64{3, 1, 4, 0, 0, 0, 0, 0, 0}) {
			t.Errorf("%d is changed", i)
		}
	}
}

// TestNewMemory is of R2: what one run has put out is no other one's, and none of what came in.
func TestNewMemory(t *testing.T) {
	p := simple(ret("con(0)", get(0), put("tmp(0)"), get(0), put("tmp(0)"), get(0), put("tmp(0)")))
	in := []int64{1, 2, 3}
	a, b := ran(t, p, in, 100), ran(t, p, in, 100)
	for i := range cap(a.Out) {
		a.Out[:cap(a.Out)][i] = 9
	}
	if numbers(in) != "1 2 3" || numbers(b.Out) != "1 2 3" {
		t.Error(in, b.Out)
	}
	clear(in)
	if numbers(b.Out) != "1 2 3" {
		t.Error(b.Out)
	}
}

// TestNotKept is of R1 and R2: what was stored, in globals too, is of one run alone, and a
// program that has been run may be changed.
func TestNotKept(t *testing.T) {
	p := prog(objs(obj(8, 2, 5)), fn(0, objs(obj(4, 1, 6)), ret("tmp(0)", put("load64(glo(0))"), put("load32(loc(0))"), put("tmp(1)"), store(8, "glo(0)", "con(1)"), store(4, "loc(0)", "con(2)"), set(1, "con(3)"), put("load64(glo(0))"))))
	for range 3 {
		ends(t, p, "exit 0 [5 6 0 1] 9/1")
	}
	p.Globals[0].Init[0] = 50
	p.Funcs[0].Locals[0].Init[0] = 60
	p.Funcs[0].Blocks[0].Cond.N = 1
	ends(t, p, "exit 3 [50 60 0 1] 9/1")
	p.Funcs[0].Blocks[0].Steps[0].Args[0].Op = 0
	isRefused(t, "changed", p)
}

// TestEmptyLists is of R2: a nil list and an empty one are one.
func TestEmptyLists(t *testing.T) {
	p := recursive()
	q := recursive()
	q.Globals = []api.Obj{}
	for i := range q.Funcs {
		q.Funcs[i].Locals = []api.Obj{}
		for j := range q.Funcs[i].Blocks {
			b := &q.Funcs[i].Blocks[j]
			b.Steps = append([]api.Step{}, b.Steps...)
			for k := range b.Steps {
				b.Steps[k].Args = append([]api.Tree{}, b.Steps[k].Args...)
			}
			if b.End == api.EndJump {
				b.Cond.Kids = []api.Tree{}
			} else if len(b.Cond.Kids) == 0 {
				b.Cond.Kids = []api.Tree{}
			}
		}
	}
	for _, in := range [][]int64{nil, {}, {3}, {64}} {
		if a, b := ran(t, p, in, 900), ran(t, q, in, 900); !same(a, b) {
			t.Errorf("%s, %s", show(a), show(b))
		}
	}
}

// TestAtOneTime is of R1: calls at the same time tell what each tells alone.
func TestAtOneTime(t *testing.T) {
	l := samples()
	in := []int64{3, 1, 4}
	var alone []string
	for _, p := range l {
		alone = append(alone, show(ran(t, p, in, 900)))
	}
	var all sync.WaitGroup
	for range 8 {
		all.Go(func() {
			for i, p := range l {
				if o, err := graph.Run(p, in, 900); show(o) != alone[i] || err != api.OK || graph.Check(p) != api.OK {
					t.Errorf("%d: %s; should be %s", i, show(o), alone[i])
				}
			}
		})
	}
	all.Wait()
}
