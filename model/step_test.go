package model_test

import (
	"math"
	"slices"
	"strings"
	"testing"

	"gantlet/api"
	"gantlet/model"
	"gantlet/sample"
)

// TestSteps is of P5.1: how many steps all is, counted by hand.
func TestSteps(t *testing.T) {
	for body, want := range map[string]string{
		"":                                 "exit 0 [] 0/1",
		";":                                "exit 0 [] 1/1",
		"{}":                               "exit 0 [] 1/1",
		"{;{;}}":                           "exit 0 [] 4/1",
		"return 3;":                        "exit 3 [] 2/1",
		"put(2);return 3;":                 "exit 3 [2] 5/1",
		"exit(4);":                         "exit 4 [] 3/1",
		"get();":                           "exit 0 [] 2/1",
		"put(get());":                      "exit 0 [0] 3/1",
		"x=1;":                             "exit 0 [] 4/1",
		"x+=1;":                            "exit 0 [] 4/1",
		"x++;":                             "exit 0 [] 3/1",
		"--x;":                             "exit 0 [] 3/1",
		"a;":                               "exit 0 [] 2/1",
		"a[1];":                            "exit 0 [] 4/1",
		"&a[1];":                           "exit 0 [] 5/1",
		"*a;":                              "exit 0 [] 3/1",
		"&*a;":                             "exit 0 [] 4/1",
		"&x;":                              "exit 0 [] 3/1",
		"*&x;":                             "exit 0 [] 4/1",
		"a[1]=x;":                          "exit 0 [] 6/1",
		"a[1]*=x;":                         "exit 0 [] 6/1",
		"a[x]++;":                          "exit 0 [] 5/1",
		"*a=2;":                            "exit 0 [] 5/1",
		"1;":                               "exit 0 [] 2/1",
		"(((1)));":                         "exit 0 [] 2/1",
		"sizeof(int);":                     "exit 0 [] 2/1",
		"(char)x;":                         "exit 0 [] 3/1",
		"-x;":                              "exit 0 [] 3/1",
		"x+1;":                             "exit 0 [] 4/1",
		"x?1:2;":                           "exit 0 [] 4/1",
		"x?1+1:x?1:2;":                     "exit 0 [] 6/1",
		"x&&1;":                            "exit 0 [] 3/1",
		"x||1;":                            "exit 0 [] 4/1",
		"if(x);":                           "exit 0 [] 2/1",
		"if(!x);":                          "exit 0 [] 4/1",
		"if(x);else;":                      "exit 0 [] 3/1",
		"if(!x);else;":                     "exit 0 [] 4/1",
		"while(x);":                        "exit 0 [] 2/1",
		"while(x++<2);":                    "exit 0 [] 15/1",
		"do;while(x++<2);":                 "exit 0 [] 16/1",
		"for(x=0;x<2;x++);":                "exit 0 [] 19/1",
		"for(;;)break;":                    "exit 0 [] 2/1",
		"for(;x<2;){x++;}":                 "exit 0 [] 18/1",
		"while(x<2){x++;continue;}":        "exit 0 [] 20/1",
		"for(;;x++)if(x==2)break;":         "exit 0 [] 18/1",
		"switch(1){case 1:;}":              "exit 0 [] 4/1",
		"switch(2){case 1:;}":              "exit 0 [] 2/1",
		"switch(2){case 1:;default:;}":     "exit 0 [] 4/1",
		"switch(2){default:;case 2:;}":     "exit 0 [] 4/1",
		"switch(3){default:;case 2:;}":     "exit 0 [] 6/1",
		"switch(1){case 1:break;case 2:;}": "exit 0 [] 4/1",
		"switch(1)case 1:;":                "exit 0 [] 4/1",
		"switch(2)case 1:;":                "exit 0 [] 3/1",
		"switch(1){{;case 1:;}}":           "exit 0 [] 4/1",
		"switch(1){while(x){;case 1:;}}":   "exit 0 [] 5/1",
		"goto e;;;e:;":                     "exit 0 [] 3/1",
		"goto e;{;e:;}":                    "exit 0 [] 3/1",
		"goto e;while(x){e:;}":             "exit 0 [] 4/1",
		"goto e;do{e:;}while(x);":          "exit 0 [] 4/1",
		"goto e;for(x=5;x<1;x++){e:;}":     "exit 0 [] 8/1",
		"goto e;if(x){e:;}else;":           "exit 0 [] 3/1",
		"goto e;switch(1){case 1:;e:;}":    "exit 0 [] 3/1",
		"e:if(x++<2)goto e;":               "exit 0 [] 20/1",
		"int y;":                           "exit 0 [] 3/1",
		"int y=1;":                         "exit 0 [] 4/1",
		"int y[5];":                        "exit 0 [] 11/1",
		"int y[5];int z;":                  "exit 0 [] 14/1",
		"int y[64];":                       "exit 0 [] 129/1",
		"goto e;int y[5];e:;":              "exit 0 [] 8/1",
		"if(x)int y[5];":                   "exit 0 [] 7/1",
		"for(;x<2;x++)int y[3];":           "exit 0 [] 25/1",
		"f();":                             "exit 0 [] 2/2",
		"f();f();":                         "exit 0 [] 4/2",
		"x?f():f();":                       "exit 0 [] 4/2",
		"g(1,2);":                          "exit 0 [] 8/2",
		"g(g(1,2),g(3,4));":                "exit 0 [] 20/2",
		"h(1);":                            "exit 0 [] 26/2",
		"put(k(3));":                       "exit 0 [6] 39/5",
	} {
		ends(t, "int x;int a[4];void f(){}int g(int a,char b){return a;}void h(int a){int b;int c[9];}int k(int n){return n?n+k(n-1):0;}int main(){"+body+"}", want)
	}
}

// TestFuel is of P5.1: what of a program is done with so much fuel.
func TestFuel(t *testing.T) {
	for s, want := range map[string]string{
		"int main(){put(1);put(2);return 3;}":                    "0 [] 0/1,0 [] 1/1,0 [] 2/1,0 [1] 3/1,0 [1] 4/1,0 [1] 5/1,0 [1 2] 6/1,0 [1 2] 7/1,3 [1 2] 8/1,3 [1 2] 8/1",
		"int main(){}":                                           "0 [] 0/1,0 [] 0/1",
		"int main(){int x[3];}":                                  "0 [] 0/1,0 [] 1/1,0 [] 2/1,0 [] 3/1,0 [] 4/1,0 [] 5/1,0 [] 6/1,0 [] 7/1,0 [] 7/1",
		"void f(int a){put(a);}int main(){f(1);}":                "0 [] 0/1,0 [] 1/1,0 [] 2/1,0 [] 3/2,0 [] 4/2,0 [] 5/2,0 [] 6/2,0 [1] 7/2,0 [1] 7/2",
		"int main(){int x=get();put(x);}":                        "0 [] 0/1,0 [] 1/1,0 [] 2/1,0 [] 3/1,0 [] 4/1,0 [] 5/1,0 [] 6/1,0 [5] 7/1,0 [5] 7/1",
		"int f(){put(7);exit(8);return 9;}int main(){put(f());}": "0 [] 0/1,0 [] 1/1,0 [] 2/1,0 [] 3/2,0 [] 4/2,0 [] 5/2,0 [7] 6/2,0 [7] 7/2,0 [7] 8/2,8 [7] 9/2,8 [7] 9/2",
		"int main(){for(;;);}":                                   "0 [] 0/1,0 [] 1/1,0 [] 2/1,0 [] 3/1",
	} {
		u := checked(t, s)
		l := strings.Split(want, ",")
		for fuel, want := range l {
			o, err := model.Run(u, []int64{5}, fuel)
			kind := "fuel "
			if s != "int main(){for(;;);}" && fuel >= len(l)-2 {
				kind = "exit "
			}
			if got := show(o); err != api.OK || got != kind+want {
				t.Errorf("%q, %d: %s, %d; should be %s", s, fuel, got, err, kind+want)
			}
		}
	}
}

// TestEndsOfFuel is of P5.1: which end it is, where fuel and something else end there.
func TestEndsOfFuel(t *testing.T) {
	for _, c := range []struct {
		s     string
		steps int // up to where it is stuck, or the stack is used up
		kind  int
		out   []int64
	}{
		{"int main(){int*n;put(1);*n;}", 9, api.OStuck, []int64{1}},
		{"int main(){int*n;n+1;}", 7, api.OStuck, nil},
		{"int f(){put(2);}int main(){f();}", 5, api.OStuck, []int64{2}},
		{"void f(){f();}int main(){f();}", 128, api.OOver, nil},
		{"void f(int a){f(a);}int main(){f(1);}", 255, api.OOver, nil},
		{"void f(){int a[30];f();}int main(){f();}", 2 + 63*63, api.OOver, nil},
	} {
		u := checked(t, c.s)
		for fuel := 0; fuel <= c.steps+3; fuel++ {
			if fuel == c.steps+3 {
				fuel = api.MaxFuel
			}
			o, err := model.Run(u, nil, fuel)
			switch {
			case err != api.OK:
				t.Fatalf("%q, %d: error %d", c.s, fuel, err)
			case fuel < c.steps && (o.Kind != api.OFuel || o.Steps != fuel || o.Code != 0 || !isBeginning(o.Out, c.out)):
				t.Errorf("%q, %d: %s", c.s, fuel, show(o))
			case fuel >= c.steps && (o.Kind != c.kind || o.Kind == api.OStuck && show(o) != stuck):
				t.Errorf("%q, %d: %s", c.s, fuel, show(o))
			}
		}
	}
}

// isBeginning tells whether a list begins with all of another one.
func isBeginning(l, of []int64) bool {
	return len(l) <= len(of) && slices.Equal(l, of[:len(l)])
}

// TestFuelThatMayBe is of P5.1: from 0 to MaxFuel.
func TestFuelThatMayBe(t *testing.T) {
	u := checked(t, "int main(){put(1);for(;;);}")
	for _, fuel := range []int{0, 1, api.MaxFuel - 1, api.MaxFuel} {
		o, err := model.Run(u, nil, fuel)
		if err != api.OK || o.Kind != api.OFuel || o.Steps != fuel {
			t.Errorf("%d: %s, %d", fuel, show(o), err)
		}
	}
	for _, fuel := range []int{-1, api.MaxFuel + 1, math.MinInt, math.MaxInt, math.MinInt32, math.MaxInt32, 1 << 32} {
		o, err := model.Run(u, nil, fuel)
		if err != api.ErrForm || show(o) != "none 0 [] 0/0" {
			t.Errorf("%d: %s, %d", fuel, show(o), err)
		}
	}
}

// TestMoreFuel is P5.2: what has ended is the same with more fuel, whatever its end is.
func TestMoreFuel(t *testing.T) {
	ends := map[int]bool{}
	for _, s := range append(sample.Texts(), "int main(){int*p;put(1);return*p;}", "int main(){put(1);return main();}", "int main(){for(;;)put(1);}") {
		u := checked(t, s)
		in := []int64{1, 1, 0, 6}
		last, _ := model.Run(u, in, api.MaxFuel)
		ended := false
		for fuel := 0; fuel <= api.MaxFuel; fuel += 1 + fuel/150 {
			o, err := model.Run(u, in, fuel)
			ended = ended || o.Kind != api.OFuel
			if err != api.OK || ended && !same(o, last) || !ended && (o.Steps != fuel || last.Kind != api.OStuck && !isBeginning(o.Out, last.Out)) {
				t.Errorf("%q, %d: %s, %d; with more %s", s, fuel, show(o), err, show(last))
			}
		}
		ends[last.Kind] = true
	}
	if len(ends) != 4 {
		t.Errorf("%v", ends)
	}
}
