package lower_test

import (
	"strconv"
	"strings"
	"testing"

	"gantlet/api"
	"gantlet/graph"
)

// TestCalls is of P8.1: calls with 0 to 4 arguments, as statements and within expressions, of
// functions that return something and of others, that call themselves and each other.
func TestCalls(t *testing.T) {
	for s, want := range map[string]string{
		"int f(){return 7;}int g(int a){return a+1;}int h(int a,int b){return a*10+b;}int i(int a,int b,int c){return h(a,b)*10+c;}int j(int a,int b,int c,int d){return i(a,b,c)*10+d;}" +
			"int main(){put(f());put(g(2));put(h(1,2));put(i(1,2,3));put(j(1,2,3,4));put(j(f(),g(f()),h(0,g(1)),f()-f()));f();g(1);h(1,2);i(1,2,3);j(1,2,3,4);put(f()+g(f())*h(f(),f()));}": "7 3 12 123 1234 7820 623",
		"int x;void f(){x++;}void g(int a){x+=a;}void h(int a,int*p){*p+=a;f();}int main(){f();g(5);h(2,&x);put(x);int y;h(3,&y);put(y);put(x);1?f():g(9);put(x);0?f():g(9);put(x);x&&get();}": "9 3 10 11 20",
		"int f(char a,unsigned char b,short c,long d){return a*1000+b+c+d;}int main(){put(f(200,-1,65536,4294967296));}":                                                                       "-55745",
		"unsigned char f(int a){return a;}char g(int a){return f(a);}long k(unsigned int a){return a;}int main(){put(f(-2));put(g(-2));put(f(-1)+f(-1));put(k(-1));}":                          "254 -2 510 4294967295",
		"int*f(int*p){return p+1;}int a[3]={1,2,3};int main(){put(*f(a));put(f(f(a))[0]);put(f(a)-a);*f(a)=9;put(a[1]);++*f(a);put((*f(a))--);put(*f(a));put(f(a)==a+1);}":                     "2 3 1 9 10 9 1",
		"void f(int a){a++;put(a);}int main(){int a=1;f(a);f(a);put(a);}":                                                                                                                      "2 2 1",
		"void f(int a){int*p=&a;*p+=1;put(a);}int main(){int a=1;f(a);f(a);put(a);f(a=5);put(a);}":                                                                                             "2 2 1 6 5",
		"void f(int a,char b,long*c,short d){*&a+=1;*&b+=1;put(a);put(b);put(*c);put(d);}int main(){long l=9;f(1,127,&l,4);}":                                                                  "2 -128 9 4",
		"int*f(int*p){return p;}int main(){put(f(0)==0);put(!f(0));int x;put(f(&x)==&x);}":                                                                                                     "1 1 1",
		"int fib(int n){return n<2?n:fib(n-1)+fib(n-2);}int main(){put(fib(10));}":                                                                                                             "55",
		"int even(int n){if(n)return odd(n-1);return 1;}int odd(int n){if(n)return even(n-1);return 0;}int main(){put(even(9));put(odd(9));}":                                                  "0 1",
		"int s;void f(int n){int v=n;if(n){f(n-1);s=s*10+v;}put(v);}int main(){f(3);put(s);}":                                                                                                  "0 1 2 3 123",
		"int f(int*p,int n){if(n){int v;v=*p+n;return f(&v,n-1);}return *p;}int main(){int z=100;put(f(&z,4));}":                                                                               "110",
		"int f(int n,int*p){int v=n;if(n==2)p=&v;if(n)return f(n-1,p);return *p;}int main(){put(f(4,0));}":                                                                                     "2",
		"int f(int n){int a[3];put(a[n]);a[n]=n+1;if(n)f(n-1);put(a[n]);return a[2];}int main(){put(f(2));}":                                                                                   "0 0 0 1 2 3 3",
		"int ack(int m,int n){return m?n?ack(m-1,ack(m,n-1)):ack(m-1,1):n+1;}int main(){put(ack(2,2));}":                                                                                       "7",
		"int n;int main(){if(n++<1){put(main());put(5);return 0;}return 3;}":                                                                                                                   "3 5",
		"long f(){return 2147483648*2147483648*2;}int main(){put(f());put(-f());}":                                                                                                             "-9223372036854775808 -9223372036854775808",
	} {
		puts(t, s, want, 1)
	}
}

// TestGivenCalls is of P8.1: put, get and exit, wherever they may stand.
func TestGivenCalls(t *testing.T) {
	for s, want := range map[string]string{
		"int main(){put(get());put(get());put(get());put(get());}":                                                  "exit 0 [7 -1 9223372036854775807 0]",
		"int main(){char c=get();put(c);get();put(get()-get());}":                                                   "exit 0 [7 9223372036854775807]",
		"int main(){put(get()?get():get());get()&&get();put(get()||get());}":                                        "exit 0 [-1 0]",
		"int a[9];int main(){a[get()]=get();put(a[7]);a[1]+=get();put(a[1]);if(get())put(8);while(get());}":         "exit 0 [-1 -1]",
		"int main(){exit(4294967297);put(1);}":                                                                      "exit 4294967297 []",
		"int main(){return 4294967297;}":                                                                            "exit 1 []",
		"int main(){return 2147483648;}":                                                                            "exit -2147483648 []",
		"int main(){exit((unsigned int)-1);}":                                                                       "exit 4294967295 []",
		"int main(){exit((unsigned long)-1);}":                                                                      "exit -1 []",
		"int main(){put(1);exit(get());}":                                                                           "exit 7 [1]",
		"int f(){exit(3);return 4;}int main(){put(1+f());put(2);}":                                                  "exit 3 []",
		"int f(int n){put(n);if(n==2)exit(n*10);return f(n+1);}int main(){return f(0)+f(9);}":                       "exit 20 [0 1 2]",
		"int main(){while(1)exit(1?6:7);}":                                                                          "exit 6 []",
		"int main(){int x=1;for(exit(x);;)put(1);}":                                                                 "exit 1 []",
		"int main(){int x;for(;;put(x))switch(x++){case 0:continue;case 1:break;case 2:get()?exit(x):put(-1);}}":    "exit 3 [1 2]",
		"int main(){1?put(3):exit(4);0?put(5):exit(6);}":                                                            "exit 6 [3]",
		"int main(){char c=200;put(c);put((unsigned char)c);put(c=c);unsigned long u=-1;put(u);put(sizeof(long));}": "exit 0 [-56 200 -56 -1 8]",
		"int*n;int f(){exit(7);return 0;}int main(){*n=f();}":                                                       "exit 7 []",
		"int a[4];int f(){exit(7);return 0;}int main(){*(a+4)=f();}":                                                "exit 7 []",
		"int*d(int v){return &v;}int f(){exit(7);return 0;}int main(){*d(1)=f();}":                                  "exit 7 []",
	} {
		ends(t, s, want, 7, -1, 1<<63-1)
	}
}

// TestManyCalls is of P8.1 and of chapter 7: 64 calls at the same time, and one more.
func TestManyCalls(t *testing.T) {
	f := "int f(int n){put(n);if(n)return f(n-1);return 5;}int main(){return f(get());}"
	for n := range 70 {
		o, _ := holds(t, f, int64(n))
		kind := api.OExit
		if n > 62 {
			kind = api.OOver
		}
		if o.Kind != kind || len(o.Out) != min(n+1, 63) {
			t.Errorf("%d: %s", n, show(o))
		}
	}
	ends(t, "void f(){put(1);f();}int main(){f();}", "over 0 ["+strings.TrimSpace(strings.Repeat("1 ", 63))+"]")
	ends(t, "int main(){put(1);return main();}", "over 0 ["+strings.TrimSpace(strings.Repeat("1 ", 64))+"]")
	ends(t, "int f(int n){return f(n+put1(n));}int put1(int n){put(n);return 1;}int main(){f(0);}", "over 0 ["+numbers(upTo(62))+"]")
	ends(t, "int x;int main(){if(x++<63)main();return x;}", "exit 64 []")
}

func upTo(n int64) []int64 {
	var l []int64
	for i := range n {
		l = append(l, i)
	}
	return l
}

// TestNoMoreElements is of P8.1: the elements that a call of the graph makes are no more than those
// of the function, so that a call costs no more fuel.
func TestNoMoreElements(t *testing.T) {
	for s, want := range map[string]int{
		"int main(){int a[64];int b;int*c=&b;long d[3];}": 68,
		"int main(){int a;int b;put(a+b);}":               2,
		"int main(){char a[64];a[1]=2;put(a[1]);}":        64,
	} {
		n := 0
		for _, o := range lowered(t, s, checked(t, s)).Funcs[0].Locals {
			n += o.Count
		}
		if n > want {
			t.Errorf("%q: %d", s, n)
		}
	}
}

// TestPlacesOfFunctions is of P8.1: a program has as many globals as the unit, and functions, and
// begins where main is.
func TestPlacesOfFunctions(t *testing.T) {
	for i := range 8 {
		s := "int g;char h[3]={1,-2};"
		for j := range 8 {
			if i == j {
				s += "int main(){return f" + strconv.Itoa((i+1)%8) + "();}"
			} else {
				s += "int f" + strconv.Itoa(j) + "(){return " + strconv.Itoa(j) + ";}"
			}
		}
		p := lowered(t, s, checked(t, s))
		if len(p.Funcs) != 8 || p.Main != i || len(p.Globals) != 2 {
			t.Errorf("%d: %s", i, whole(p))
		}
		if o, err := graph.Run(p, nil, 99); err != api.OK || o.Code != int64((i+1)%8) {
			t.Errorf("%d: %s", i, show(o))
		}
	}
}
