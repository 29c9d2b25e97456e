package model_test

import (
	"fmt"
	"reflect"
	"slices"
	"strings"
	"testing"

	"gantlet/api"
	"gantlet/check"
	"gantlet/model"
	"gantlet/parse"
	"gantlet/sample"
)

// whole tells all of a unit; a nil list and an empty one are one there.
func whole(u api.Unit) string { return fmt.Sprintf("%+v", u) }

// isChecked tells whether a unit is what Check tells of it.
func isChecked(u api.Unit) bool {
	v, f := check.Check(u)
	return f == api.Fault{} && whole(v) == whole(u)
}

// changes changes each number, each text and each list of what v is, one at a time.
func changes(v reflect.Value, try func()) {
	old := reflect.New(v.Type()).Elem()
	old.Set(v)
	as := func(x reflect.Value) {
		v.Set(x)
		try()
		v.Set(old)
	}
	switch v.Kind() {
	case reflect.Int, reflect.Int64:
		for _, n := range []int64{old.Int() + 1, old.Int() - 1, 0, 1, -1, 1 << 40} {
			if n != old.Int() {
				as(reflect.ValueOf(n).Convert(v.Type()))
			}
		}
	case reflect.String:
		for _, s := range []string{"", "x", old.String() + "x"} {
			if s != old.String() {
				as(reflect.ValueOf(s))
			}
		}
	case reflect.Struct:
		for i := range v.NumField() {
			changes(v.Field(i), try)
		}
	case reflect.Slice:
		as(reflect.Append(old.Slice3(0, old.Len(), old.Len()), reflect.Zero(v.Type().Elem())))
		if n := old.Len(); n > 0 {
			as(old.Slice(0, n-1))
			as(old.Slice(1, n))
			as(reflect.Append(old.Slice3(0, n, n), old.Index(n-1)))
		}
		for i := range old.Len() {
			changes(old.Index(i), try)
		}
	}
}

// TestForm is of P5.1: units of which one thing is changed are run just where they are what Check
// tells of them.
func TestForm(t *testing.T) {
	right, wrong := 0, 0
	for _, s := range sample.Texts() {
		u := checked(t, s)
		before := whole(u)
		changes(reflect.ValueOf(&u).Elem(), func() {
			t.Helper()
			o, err := model.Run(u, nil, 500)
			want := api.ErrForm
			if isChecked(u) {
				want = api.OK
				right++
			} else {
				wrong++
			}
			if err != want || err != api.OK && show(o) != "none 0 [] 0/0" || err == api.OK && o.Kind == api.ONone {
				t.Errorf("%s, %d; should be %d:\n%s", show(o), err, want, whole(u))
			}
		})
		if whole(u) != before {
			t.Fatalf("%q stays changed", s)
		}
	}
	if right < 1000 || wrong < 4000 {
		t.Errorf("%d, %d", right, wrong)
	}
}

// TestUnchecked is of P5.1: what parse tells, and what is faulty, is not run.
func TestUnchecked(t *testing.T) {
	for _, s := range append(sample.Texts(), "", "int x;", "int main(){return x;}", "long main(){return 1;}", "int main(int a){return 1;}", "int main(){int x;int x;}", "int main(){goto a;}", "int f(){}") {
		u, _ := parse.Parse(s)
		if o, err := model.Run(u, nil, 9); err != api.ErrForm || show(o) != "none 0 [] 0/0" {
			t.Errorf("%q: %s, %d", s, show(o), err)
		}
	}
	// Of these there is nothing to be filled in.
	for _, s := range []string{"int main(){}", "int main(){;{}for(;;);}void f(){a:goto a;}"} {
		u, _ := parse.Parse(s)
		if _, err := model.Run(u, nil, 9); err != api.OK {
			t.Errorf("%q: %d", s, err)
		}
	}
	deep := api.Stmt{Op: api.SBlock}
	e := api.Expr{Op: api.EMinus}
	for range 60000 {
		deep = api.Stmt{Op: api.SBlock, Body: []api.Stmt{deep}}
		e = api.Expr{Op: api.EMinus, Kids: []api.Expr{e}}
	}
	main := api.Func{Name: "main", Ret: api.Type{Kind: api.TI32}, Body: []api.Stmt{deep}}
	other := api.Func{Name: "main", Ret: api.Type{Kind: api.TI32}, Body: []api.Stmt{{Op: api.SExpr, Expr: []api.Expr{e}}}}
	for _, f := range []api.Func{main, other} {
		if o, err := model.Run(api.Unit{Funcs: []api.Func{f}}, nil, 9); err != api.ErrForm || show(o) != "none 0 [] 0/0" {
			t.Errorf("%s, %d", show(o), err)
		}
	}
}

// TestStays is of R1 and R2: what is handed in stays, what is told is new memory, and the same each
// time.
func TestStays(t *testing.T) {
	for _, s := range sample.Texts() {
		u := checked(t, s)
		before := whole(u)
		in := append(make([]int64, 0, 9), 3, 1, 4)
		room := in[:9]
		a, _ := model.Run(u, in, 900)
		b, _ := model.Run(u, in, 900)
		want := show(a)
		if whole(u) != before || !slices.Equal(room, []int64{3, 1, 4, 0, 0, 0, 0, 0, 0}) || show(b) != want {
			t.Errorf("%q: %v, %s, %s", s, room, want, show(b))
		}
		spare := b.Out[:cap(b.Out)]
		for i := range spare {
			spare[i] = 77
		}
		c, _ := model.Run(u, in, 900)
		if show(a) != want || show(c) != want || whole(u) != before || !slices.Equal(in, []int64{3, 1, 4}) {
			t.Errorf("%q: %s, %s, %s", s, want, show(a), show(c))
		}
	}
}

// TestMoved is of P5.1: where things stand in the text changes nothing, nor do blanks.
func TestMoved(t *testing.T) {
	for _, s := range sample.Texts() {
		u := checked(t, s)
		want := show(ran(t, s, []int64{1, 2}, 900))
		if got := show(ran(t, strings.ReplaceAll(strings.ReplaceAll(s, ";", " ;\n"), "(", "( "), []int64{1, 2}, 900)); got != want {
			t.Errorf("%q: %s; should be %s", s, got, want)
		}
		v := reflect.ValueOf(&u).Elem()
		place(v, -7)
		if got, err := model.Run(u, []int64{1, 2}, 900); show(got) != want || err != api.OK {
			t.Errorf("%q: %s, %d; should be %s", s, show(got), err, want)
		}
	}
}

// place sets each Pos of what v is.
func place(v reflect.Value, pos int64) {
	switch v.Kind() {
	case reflect.Struct:
		for i := range v.NumField() {
			if v.Type().Field(i).Name == "Pos" {
				v.Field(i).SetInt(pos)
			} else {
				place(v.Field(i), pos)
			}
		}
	case reflect.Slice:
		for i := range v.Len() {
			place(v.Index(i), pos)
		}
	}
}
