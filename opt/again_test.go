package opt_test

import (
	"fmt"
	"reflect"
	"sync"
	"testing"

	"gantlet/api"
	"gantlet/opt"
	"gantlet/sample"
)

// samples are programs that become better, some that stay, and some that may not be.
func samples() []api.Prog {
	l := []api.Prog{
		{}, simple(), simple(ret("con(1)")), simple(jump(0)), simple(ret("add(tmp(0), load32(add(glo(0), con(4))))")),
		prog(objs(), fn(0, objs(), ret("add(tmp(0), load32(add(glo(2), con(4))))", get(0), get(1), call(1, 1, "tmp(0)", "tmp(1)"))), fn(2, objs(), ret("add(tmp(0), load32(add(loc(2), con(4))))", call(-1, 1, "tmp(1)", "tmp(0)"))), fn(1, objs(), jump(0))),
		prog(objs(), fn(0, objs(), branch("load64(glo(4))", 1, 1, put("load64(loc(4))")), jump(2, store(4, "add(con(4), loc(2))", "con(5)")), ret("load32(add(con(4), loc(2)))"))),
	}
	for seed := range uint64(40) {
		l = append(l, sample.Tangle(sample.Mix(seed+5)), sample.Graph(sample.Mix(seed+5)))
	}
	for _, s := range sample.Texts() {
		p, _ := lowered(s)
		l = append(l, p)
	}
	return l
}

// roomy tells v anew, with two more things in each list's spare room.
func roomy(v reflect.Value) reflect.Value {
	x := reflect.New(v.Type()).Elem()
	x.Set(v)
	switch v.Kind() {
	case reflect.Struct:
		for i := range v.NumField() {
			x.Field(i).Set(roomy(v.Field(i)))
		}
	case reflect.Slice:
		n := v.Len()
		x = reflect.MakeSlice(v.Type(), n+2, n+2)
		for i := range n {
			x.Index(i).Set(roomy(v.Index(i)))
		}
		fill(x.Index(n))
		fill(x.Index(n + 1))
		x = x.Slice(0, n)
	}
	return x
}

// fill makes numbers of what is at the top of v.
func fill(v reflect.Value) {
	switch v.Kind() {
	case reflect.Int, reflect.Int64:
		v.SetInt(77)
	case reflect.Struct:
		for i := range v.NumField() {
			fill(v.Field(i))
		}
	}
}

// spoil writes into all lists of what v is, with their spare room.
func spoil(v reflect.Value) {
	switch v.Kind() {
	case reflect.Struct:
		for i := range v.NumField() {
			spoil(v.Field(i))
		}
	case reflect.Slice:
		v = v.Slice(0, v.Cap())
		for i := range v.Len() {
			spoil(v.Index(i))
			fill(v.Index(i))
		}
	}
}

// withRoom tells all of v, with the spare room of its lists.
func withRoom(v reflect.Value) string {
	switch v.Kind() {
	case reflect.Struct:
		s := "{"
		for i := range v.NumField() {
			s += withRoom(v.Field(i)) + " "
		}
		return s + "}"
	case reflect.Slice:
		s := fmt.Sprint(v.Len(), "[")
		for i := range v.Cap() {
			s += withRoom(v.Slice(0, v.Cap()).Index(i)) + " "
		}
		return s + "]"
	}
	return fmt.Sprint(v.Interface())
}

// lists tells where the things of all lists of what v is are, with their spare room.
func lists(v reflect.Value) []uintptr {
	var l []uintptr
	switch v.Kind() {
	case reflect.Struct:
		for i := range v.NumField() {
			l = append(l, lists(v.Field(i))...)
		}
	case reflect.Slice:
		whole := v.Slice(0, v.Cap())
		for i := range whole.Len() {
			l = append(l, whole.Index(i).Addr().Pointer())
		}
		for i := range v.Len() {
			l = append(l, lists(v.Index(i))...)
		}
	}
	return l
}

// TestStaysAsItWas is of P10.1, by R1 and R2: what is handed in stays as it was, spare room too, and the
// same is told each time.
func TestStaysAsItWas(t *testing.T) {
	for i, p := range samples() {
		q := roomy(reflect.ValueOf(p)).Interface().(api.Prog)
		before := withRoom(reflect.ValueOf(q))
		a, err := opt.Opt(p)
		for range 2 {
			b, e := opt.Opt(q)
			if whole(a) != whole(b) || e != err || withRoom(reflect.ValueOf(q)) != before {
				t.Errorf("%d: %s, %d; should be %s, %d", i, whole(b), e, whole(a), err)
			}
		}
	}
}

// TestNewMemory is of P10.1, by R2: no two lists share memory, spare room too, of what is handed in and of
// what is told once and once more; whoever writes into the one changes nothing of the other.
func TestNewMemory(t *testing.T) {
	for i, p := range samples() {
		p = roomy(reflect.ValueOf(p)).Interface().(api.Prog)
		a, _ := opt.Opt(p)
		b, _ := opt.Opt(p)
		seen := map[uintptr]int{}
		for _, v := range []api.Prog{p, a, b} {
			for _, at := range lists(reflect.ValueOf(&v).Elem()) {
				seen[at]++
				if seen[at] > 1 {
					t.Fatalf("%d: two lists share memory", i)
				}
			}
		}
		want := whole(b)
		spoil(reflect.ValueOf(&a).Elem())
		spoil(reflect.ValueOf(&p).Elem())
		if whole(b) != want {
			t.Errorf("%d: %s; was %s", i, whole(b), want)
		}
	}
}

// TestSharedMemory is of P10.1, by R2: of what shares memory comes what shares none.
func TestSharedMemory(t *testing.T) {
	kids := trees([]string{"load32(add(glo(0), con(4)))", "tmp(0)"})
	x := api.Tree{Op: api.RDiv, Kids: []api.Tree{{Op: api.RRem, Kids: kids}, {Op: api.RMul, Kids: kids}}}
	steps := []api.Step{get(0), {Op: api.GPut, To: -1, Args: []api.Tree{x}}, {Op: api.GStore, To: -1, Size: 4, Args: []api.Tree{tr("add(glo(0), con(4))"), x}}}
	l := []api.Obj{obj(4, 3, 5, 6)}
	g := fn(0, l, jump(1, steps...), branch("load32(glo(0))", 2, 3, steps...), ret("tmp(1)", steps...), ret("load32(loc(0))", append(steps, call(-1, 1))...))
	p := prog(l, g, g)
	q := better(t, p, []int64{3, 4, 5}, []int64{1})
	seen := map[uintptr]int{}
	for _, at := range lists(reflect.ValueOf(&q).Elem()) {
		seen[at]++
		if seen[at] > 1 {
			t.Fatal("two lists share memory")
		}
	}
}

// TestEmptyLists is of P10.1, by R2: a nil list and an empty one are one.
func TestEmptyLists(t *testing.T) {
	var empty func(v reflect.Value)
	empty = func(v reflect.Value) {
		switch v.Kind() {
		case reflect.Struct:
			for i := range v.NumField() {
				empty(v.Field(i))
			}
		case reflect.Slice:
			if v.Len() == 0 {
				v.Set(reflect.MakeSlice(v.Type(), 0, 3))
			}
			for i := range v.Len() {
				empty(v.Index(i))
			}
		}
	}
	for i, p := range samples() {
		q := roomy(reflect.ValueOf(p)).Interface().(api.Prog)
		empty(reflect.ValueOf(&q).Elem())
		a, err := opt.Opt(p)
		b, e := opt.Opt(q)
		if whole(a) != whole(b) || e != err {
			t.Errorf("%d: %s, %d; should be %s, %d", i, whole(b), e, whole(a), err)
		}
	}
}

// TestAtOneTime is of R1: calls at the same time tell what each tells alone.
func TestAtOneTime(t *testing.T) {
	l := samples()
	var alone []string
	for _, p := range l {
		q, _ := opt.Opt(p)
		alone = append(alone, whole(q))
	}
	var all sync.WaitGroup
	for range 8 {
		all.Go(func() {
			for i, p := range l {
				if q, _ := opt.Opt(p); whole(q) != alone[i] {
					t.Errorf("%d: %s; alone %s", i, whole(q), alone[i])
				}
			}
		})
	}
	all.Wait()
}
