package model_test

import (
	"strconv"
	"strings"
	"testing"
)

// TestCalls is of P5.1: what is told, what is returned, and to which call what belongs.
func TestCalls(t *testing.T) {
	for s, want := range map[string]string{
		"int f(int a,int b,int c,int d){return a*1000+b*100+c*10+d;}int main(){put(f(1,2,3,4));}":                                             "1234",
		"int f(char a,unsigned char b){return a*1000+b;}int main(){put(f(200,-1));}":                                                          "-55745",
		"unsigned char f(int a){return a;}char g(int a){return f(a);}int main(){put(f(-2));put(g(-2));put(f(-1)+f(-1));}":                     "254 -2 510",
		"int*f(int*p){return p+1;}int a[3]={1,2,3};int main(){put(*f(a));put(f(f(a))[0]);put(f(a)-a);*f(a)=9;put(a[1]);}":                     "2 3 1 9",
		"void f(int*p,int n){*p=n;}int main(){int x;int a[2];f(&x,3);f(a+1,4);f(a,5);put(x);put(a[0]);put(a[1]);}":                            "3 5 4",
		"void f(int a){a++;put(a);}int main(){int a=1;f(a);f(a);put(a);}":                                                                     "2 2 1",
		"int*f(int*p){return p;}int main(){put(f(0)==0);put(!f(0));int x;put(f(&x)==&x);}":                                                    "1 1 1",
		"int fib(int n){return n<2?n:fib(n-1)+fib(n-2);}int main(){put(fib(10));}":                                                            "55",
		"int even(int n){if(n)return odd(n-1);return 1;}int odd(int n){if(n)return even(n-1);return 0;}int main(){put(even(9));put(odd(9));}": "0 1",
		"int s;void f(int n){int v=n;if(n){f(n-1);s=s*10+v;}put(v);}int main(){f(3);put(s);}":                                                 "0 1 2 3 123",
		"int f(int*p,int n){if(n){int v;v=*p+n;return f(&v,n-1);}return *p;}int main(){int z=100;put(f(&z,4));}":                              "110",
		"int f(int n,int*p){int v=n;if(n==2)p=&v;if(n)return f(n-1,p);return *p;}int main(){put(f(4,0));}":                                    "2",
		"int f(int n){int*p=&n;*p+=5;return n;}int main(){put(f(1));}":                                                                        "6",
		"void f(){return;put(1);}void g(){if(get())return;put(2);}int main(){f();g();g();}":                                                   "2",
		"int n;int main(){if(n++<1){put(main());put(5);return 0;}return 3;}":                                                                  "3 5",
		"int n;int main(){if(n++)goto e;put(main());return 0;e:;}":                                                                            "0",
		"long f(){return 2147483648*2147483648*2;}int main(){put(f());put(-f());}":                                                            "-9223372036854775808 -9223372036854775808",
	} {
		puts(t, s, want, 1)
	}
}

// TestEnds is of P5.1: how a program ends, and with which code.
func TestEnds(t *testing.T) {
	for s, want := range map[string]string{
		"int main(){return 4294967295;}":                                   "exit -1 [] 2/1",
		"int main(){return 2147483648;}":                                   "exit -2147483648 [] 2/1",
		"int main(){exit(4294967296);}":                                    "exit 4294967296 [] 3/1",
		"int main(){exit(-1);put(1);}":                                     "exit -1 [] 4/1",
		"int main(){exit((unsigned int)-1);}":                              "exit 4294967295 [] 5/1",
		"int main(){exit((unsigned long)-1);}":                             "exit -1 [] 5/1",
		"int main(){put(1);exit(get());}":                                  "exit 5 [1] 6/1",
		"int f(){exit(3);return 4;}int main(){put(1+f());put(2);}":         "exit 3 [] 8/2",
		"void f(int n){if(n)f(n-1);exit(n);put(9);}int main(){f(2);}":      "exit 0 [] 25/4",
		"int main(){while(1)exit(1?6:7);}":                                 "exit 6 [] 7/1",
		"int main(){int x=1;x=2;put(x);switch(x){case 2:exit(x);}put(3);}": "exit 2 [2] 17/1",
		"int f(){}int main(){return 1;}":                                   "exit 1 [] 2/1",
		"int f(){}int main(){f();}":                                        stuck,
		"int f(int a){if(a)return 1;}int main(){put(f(1));put(f(0));}":     stuck,
		"int f(int a){if(a)return 1;}int main(){return f(1);}":             "exit 1 [] 8/2",
		"int*f(){;}int main(){put(1);f();}":                                stuck,
		"char f(){goto e;e:}int main(){f();}":                              stuck,
		"int f(){exit(1);}int main(){f();}":                                "exit 1 [] 5/2",
		"void f(){}void g(){return;}int main(){f();g();}":                  "exit 0 [] 5/2",
	} {
		ends(t, s, want, 5)
	}
}

// TestIn is of P5.1: what comes in, and 0 behind it.
func TestIn(t *testing.T) {
	four := "int main(){put(get());put(get());put(get());put(get());}"
	puts(t, four, "0 0 0 0")
	puts(t, four, "7 0 0 0", 7)
	puts(t, four, "-9223372036854775808 9223372036854775807 -1 4", -1<<63, 1<<63-1, -1, 4, 5, 6)
	puts(t, "int f(){return get();}int main(){char c=get();put(c);put(f());put(f()-get());put(get()+f());}", "-128 2147483647 -1 4294967305", 128, 1<<31-1, 3, 4, 1<<32+9)
}

// TestOver is of P5.1: 64 calls at the same time, and one more.
func TestOver(t *testing.T) {
	f := "int f(int n){if(n)return f(n-1);return 0;}int main(){return f(get());}"
	for n := range 70 {
		o := ran(t, f, []int64{int64(n)}, 5000)
		want := "exit 0 [] " + strconv.Itoa(3+8*n+5) + "/" + strconv.Itoa(n+2)
		if n > 62 {
			want = "over 0 [] " + strconv.Itoa(3+8*63) + "/64"
		}
		if got := show(o); got != want {
			t.Errorf("%d: %s; should be %s", n, got, want)
		}
	}
	ends(t, "void f(){put(1);f();}int main(){f();}", "over 0 ["+strings.TrimSpace(strings.Repeat("1 ", 63))+"] 317/64")
	ends(t, "int main(){put(1);return main();}", "over 0 ["+strings.TrimSpace(strings.Repeat("1 ", 64))+"] 320/64")
	ends(t, "int x;int main(){if(x++<63)main();return x;}", "exit 64 [] 574/64")
	ends(t, "int x;void f(){if(x++<62)f();}int main(){f();x=0;f();return x;}", "exit 63 [] 888/64")
	ends(t, "int d(int n){return n?d(n-1):0;}int main(){d(9);d(3);d(11);d(1);}", "exit 0 [] 224/13")
}
