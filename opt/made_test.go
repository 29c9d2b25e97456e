package opt_test

import (
	"testing"

	"gantlet/api"
	"gantlet/check"
	"gantlet/lower"
	"gantlet/parse"
	"gantlet/sample"
)

// total is what came of many programs.
type total struct {
	kinds         map[int]int
	before, after int // steps of those that end with OExit
}

// tried makes a program better, once and twice, and runs all three.
func (s *total) tried(t *testing.T, p api.Prog, in []int64, fuel int) {
	t.Helper()
	q := made(t, p)
	twice := made(t, q)
	want, got := alike(t, p, q, in, fuel)
	alike(t, p, twice, in, fuel)
	alike(t, q, twice, in, fuel)
	if s.kinds == nil {
		s.kinds = map[int]int{}
	}
	s.kinds[want.Kind]++
	if want.Kind == api.OExit {
		s.before += want.Steps
		s.after += got.Steps
	}
}

// TestMadeGraphs is of P10.1 and P10.2: programs of the middle language made at random, many of them
// stuck.
func TestMadeGraphs(t *testing.T) {
	t.Parallel()
	below := sample.Mix(20261120)
	var s total
	for range 3000 {
		p := sample.Graph(below)
		s.tried(t, p, []int64{int64(below(5)), int64(below(300)) - 100, 7, int64(below(3)), 1}, 2000)
	}
	if s.kinds[api.OExit] < 1000 || s.kinds[api.OFuel] < 150 || s.kinds[api.OStuck] < 500 || s.kinds[api.OOver] < 50 || s.after*3 > s.before {
		t.Errorf("%+v", s)
	}
}

// TestTangled is of P10.1 and P10.2: programs of the middle language made at random, hardly any of them
// stuck.
func TestTangled(t *testing.T) {
	t.Parallel()
	var s total
	for i := range uint64(5000) {
		p := sample.Tangle(sample.Mix((i + 1) * 0x9e3779b97f4a7c15))
		s.tried(t, p, []int64{int64(i % 5), 3, int64(i%3) - 1, 7, 1, 0, 2, 1, 1, 5, 1}, 2000)
	}
	if s.kinds[api.OExit] < 4000 || s.kinds[api.OFuel] < 10 || s.kinds[api.OOver] < 150 || s.after*2 > s.before {
		t.Errorf("%+v", s)
	}
}

// lowered tells the program of a text, if it is one.
func lowered(s string) (api.Prog, bool) {
	u, f := parse.Parse(s)
	if f.Err == 0 {
		u, f = check.Check(u)
	}
	if f.Err != 0 {
		return api.Prog{}, false
	}
	p, err := lower.Lower(u)
	return p, err == api.OK
}

// TestLowered is of P10.1 and P10.2: programs that units become.
func TestLowered(t *testing.T) {
	t.Parallel()
	texts := sample.Texts()
	for i := range uint64(300) {
		seed := (i + 1) * 0x9e3779b97f4a7c15
		texts = append(texts, sample.Made(seed), sample.Typed(seed))
	}
	var s total
	for i, text := range texts {
		if p, ok := lowered(text); ok {
			s.tried(t, p, []int64{int64(i % 7), -1, int64(i)}, 20000)
		}
	}
	if s.kinds[api.OExit] < 240 || s.kinds[api.OFuel] < 60 || s.kinds[api.OOver] < 30 || s.after*100 > s.before*85 {
		t.Errorf("%+v", s)
	}
}

// TestTexts is of P10.1: units with all kinds of loops and branches, calls, arrays and pointers take so
// many steps less.
func TestTexts(t *testing.T) {
	for _, c := range []struct {
		text          string
		before, after int
	}{
		{"int main(){int i;int s=0;for(i=0;i<10;i++)s+=i;return s;}", 46, 31},
		{"int main(){int n=0;while(get())n++;put(n++ + n);return n;}", 20, 15},
		{"int a[4]={1,2,3,4};int main(){int i;int s=0;for(i=0;i<4;i++){a[i]+=i;s+=a[i];}put(s);return s;}", 31, 22},
		{"int main(){int x=5;int*p=&x;int**q=&p;int***r=&q;***r=6;put(x);}", 10, 2},
		{"int fib(int n){if(n<2)return n;return fib(n-1)+fib(n-2);}int main(){return fib(get());}", 47, 47},
		{"int main(){int i;for(i=0;i<5;i++)switch(i){case 1:put(10);case 2:put(20);break;default:put(99);case 4:put(40);}return i;}", 50, 36},
		{"int main(){int a=get();int b=get();if(a>b&&b>0||a==7)put(1);else put(2);put(!(a&&b)||!b);return a?b:3;}", 17, 12},
		{"int g;void f(int x){g+=x;}int main(){int b[3];b[0]=1;b[1]=b[0]+get();b[2]=b[1]*2;f(b[2]);f(b[1]);put(g);return g;}", 18, 10},
		{"int f(int n){int a[2];a[0]=n;a[1]=a[0]*2;return a[1];}int main(){int i=4;while(i--)put(f(i));return 0;}", 58, 27},
	} {
		p, ok := lowered(c.text)
		if !ok {
			t.Fatalf("%q", c.text)
		}
		in := []int64{5, 6, 7, 0}
		q := better(t, p, in)
		a, b := ran(t, p, in, plenty), ran(t, q, in, plenty)
		if a.Kind != api.OExit || a.Steps != c.before || b.Steps > c.after {
			t.Errorf("%q: %s, and then %s; should be %d and %d steps", c.text, show(a), show(b), c.before, c.after)
		}
	}
}
