package lower_test

import (
	"reflect"
	"strings"
	"sync"
	"testing"
	"unsafe"

	"gantlet/api"
	"gantlet/check"
	"gantlet/lower"
	"gantlet/parse"
	"gantlet/sample"
)

// isZero tells whether a program is the zero one.
func isZero(p api.Prog) bool { return p.Globals == nil && p.Funcs == nil && p.Main == 0 }

// isChecked tells whether a unit is what Check tells of it.
func isChecked(u api.Unit) bool {
	v, f := check.Check(u)
	return f == api.Fault{} && whole(v) == whole(u)
}

// changes changes each number, each text and each list of what v is, one at a time.
func changes(v reflect.Value, try func()) {
	old := reflect.New(v.Type()).Elem()
	old.Set(v)
	as := func(x reflect.Value) {
		v.Set(x)
		try()
		v.Set(old)
	}
	switch v.Kind() {
	case reflect.Int, reflect.Int64:
		for _, n := range []int64{old.Int() + 1, old.Int() - 1, 0, 1, -1, 1 << 40} {
			if n != old.Int() {
				as(reflect.ValueOf(n).Convert(v.Type()))
			}
		}
	case reflect.String:
		for _, s := range []string{"", "x", old.String() + "x"} {
			if s != old.String() {
				as(reflect.ValueOf(s))
			}
		}
	case reflect.Struct:
		for i := range v.NumField() {
			changes(v.Field(i), try)
		}
	case reflect.Slice:
		as(reflect.Append(old.Slice3(0, old.Len(), old.Len()), reflect.Zero(v.Type().Elem())))
		if n := old.Len(); n > 0 {
			as(old.Slice(0, n-1))
			as(reflect.Append(old.Slice3(0, n, n), old.Index(n-1)))
		}
		for i := range old.Len() {
			changes(old.Index(i), try)
		}
	}
}

// TestForm is of P8.1: units of which one thing is changed are lowered just where they are what
// Check tells of them.
func TestForm(t *testing.T) {
	t.Parallel()
	right, wrong := 0, 0
	for _, s := range sample.Texts() {
		u := checked(t, s)
		before := whole(u)
		changes(reflect.ValueOf(&u).Elem(), func() {
			t.Helper()
			p, err := lower.Lower(u)
			want := api.ErrForm
			if isChecked(u) {
				want = api.OK
				right++
			} else {
				wrong++
			}
			if err != want || isZero(p) != (err != api.OK) {
				t.Errorf("%d; should be %d:\n%s\n%s", err, want, whole(p), whole(u))
			}
		})
		if whole(u) != before {
			t.Fatalf("%q stays changed", s)
		}
	}
	if right < 1000 || wrong < 4000 {
		t.Errorf("%d, %d", right, wrong)
	}
}

// refuses holds that a unit is refused, with the zero program beside that.
func refuses(t *testing.T, what string, u api.Unit) {
	t.Helper()
	if p, err := lower.Lower(u); err != api.ErrForm || !isZero(p) {
		t.Errorf("%s: %d, %s", what, err, whole(p))
	}
}

// TestUnchecked is of P8.1: what parse tells, what is faulty, and what no text is, is not lowered.
func TestUnchecked(t *testing.T) {
	for _, s := range append(sample.Texts(), "", "int x;", "int main(){return x;}", "long main(){return 1;}", "int main(int a){return 1;}", "int main(){int x;int x;}", "int main(){goto a;}", "int f(){}", "int main(){break;}", "int main(){"+strings.Repeat(";", 301)+"}") {
		u, f := parse.Parse(s)
		if f.Err != 0 {
			t.Fatalf("%q: %v", s, f)
		}
		refuses(t, s, u)
		checked, f := check.Check(u)
		if f.Err != 0 {
			refuses(t, s, checked)
		}
	}
	// Of these there is nothing to be filled in.
	for _, s := range []string{"int main(){}", "int main(){;{}for(;;);}void f(){a:goto a;}"} {
		u, _ := parse.Parse(s)
		if _, err := lower.Lower(u); err != api.OK {
			t.Errorf("%q: %d", s, err)
		}
	}
	refuses(t, "none", api.Unit{})
	deep := api.Stmt{Op: api.SBlock}
	e := api.Expr{Op: api.EMinus}
	for range 60000 {
		deep = api.Stmt{Op: api.SBlock, Body: []api.Stmt{deep}}
		e = api.Expr{Op: api.EMinus, Kids: []api.Expr{e}}
	}
	for _, body := range []api.Stmt{deep, {Op: api.SExpr, Expr: []api.Expr{e}}} {
		refuses(t, "deep", api.Unit{Funcs: []api.Func{{Name: "main", Ret: api.Type{Kind: api.TI32}, Body: []api.Stmt{body}}}})
	}
}

// TestMoved is of P8.1: where things stand in the text changes nothing, nor do blanks.
func TestMoved(t *testing.T) {
	for _, s := range sample.Texts() {
		u := checked(t, s)
		want := whole(lowered(t, s, u))
		wide := strings.ReplaceAll(strings.ReplaceAll(s, ";", " ;\n"), "(", "( ")
		if got := whole(lowered(t, wide, checked(t, wide))); got != want {
			t.Errorf("%q: %s; should be %s", wide, got, want)
		}
		place(reflect.ValueOf(&u).Elem(), -7)
		if got := whole(lowered(t, s, u)); got != want {
			t.Errorf("%q: %s; should be %s", s, got, want)
		}
	}
}

// place sets each Pos of what v is.
func place(v reflect.Value, pos int64) {
	switch v.Kind() {
	case reflect.Struct:
		for i := range v.NumField() {
			if v.Type().Field(i).Name == "Pos" {
				v.Field(i).SetInt(pos)
			} else {
				place(v.Field(i), pos)
			}
		}
	case reflect.Slice:
		for i := range v.Len() {
			place(v.Index(i), pos)
		}
	}
}

// span is the memory of a list, with its spare room.
type span struct{ begin, end uintptr }

// spans tells the memory of all lists of what v is.
func spans(v reflect.Value) []span {
	var l []span
	switch v.Kind() {
	case reflect.Struct:
		for i := range v.NumField() {
			l = append(l, spans(v.Field(i))...)
		}
	case reflect.Slice:
		begin := uintptr(unsafe.Pointer(v.UnsafePointer()))
		if v.Cap() > 0 {
			l = append(l, span{begin, begin + uintptr(v.Cap())*v.Type().Elem().Size()})
		}
		for i := range v.Len() {
			l = append(l, spans(v.Index(i))...)
		}
	}
	return l
}

// apart holds that no two lists of what is told share memory, and none shares any with what was
// handed in.
func apart(t *testing.T, s string, l ...any) {
	t.Helper()
	var all []span
	for _, v := range l {
		all = append(all, spans(reflect.ValueOf(v))...)
	}
	for i, a := range all {
		for _, b := range all[:i] {
			if a.begin < b.end && b.begin < a.end {
				t.Errorf("%q: two lists share memory", s)
				return
			}
		}
	}
}

// TestNewMemory is of R1 and R2: what is handed in stays as it was, what is told is new memory, and
// the same each time.
func TestNewMemory(t *testing.T) {
	l := append(sample.Texts(), "int a[9];int*p;int main(){a[3]+=1;p[2]++;*(p+1)*=a[1];a[get()]-=2;int x=a[1]=a[2]=3;int*q=&x;*q+=*q;switch(x*2){case 1:case 2:case 3:case 4:case 5:case 6:;}int b[3];int c[9];}")
	for _, s := range l {
		u := checked(t, s)
		before := whole(u)
		p, q := lowered(t, s, u), lowered(t, s, u)
		want := whole(p)
		if whole(u) != before || whole(q) != want {
			t.Errorf("%q: %s, %s, %s", s, whole(u), want, whole(q))
		}
		apart(t, s, u, p, q)
		spoil(reflect.ValueOf(&q).Elem())
		if whole(u) != before || whole(p) != want || whole(lowered(t, s, u)) != want {
			t.Errorf("%q hangs on what was told", s)
		}
	}
}

// spoil writes into all that v is, spare room too.
func spoil(v reflect.Value) {
	switch v.Kind() {
	case reflect.Int, reflect.Int64:
		v.SetInt(77)
	case reflect.Struct:
		for i := range v.NumField() {
			spoil(v.Field(i))
		}
	case reflect.Slice:
		all := v.Slice(0, v.Cap())
		for i := range all.Len() {
			spoil(all.Index(i))
		}
	}
}

// TestAtOneTime is of R1: calls at the same time tell what each tells alone.
func TestAtOneTime(t *testing.T) {
	var units []api.Unit
	var alone []string
	for _, s := range sample.Texts() {
		u := checked(t, s)
		units = append(units, u)
		alone = append(alone, whole(lowered(t, s, u)))
	}
	var all sync.WaitGroup
	for range 8 {
		all.Go(func() {
			for i, u := range units {
				if p, err := lower.Lower(u); err != api.OK || whole(p) != alone[i] {
					t.Errorf("%d: %s; should be %s", i, whole(p), alone[i])
				}
			}
		})
	}
	all.Wait()
}
