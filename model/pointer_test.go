package model_test

import (
	"strings"
	"testing"

	"gantlet/api"
)

// heap is what these tests have to point to: d makes a pointer to what is no more.
const heap = "int x;int y;int a[4]={10,20,30,40};int b[4];int*n;int*p;int*q;int**r;char c[3]={1,2,3};unsigned long m;int*d(int v){return &v;}int*e(){int v[2];return v;}"

// TestMemory is of P5.1: what is in objects, at first and later.
func TestMemory(t *testing.T) {
	for body, want := range map[string]string{
		"put(x);put(a[0]);put(a[3]);put(b[2]);put(c[2]);put(n==0);put(m);":                                                              "0 10 40 0 3 1 0",
		"int v;int w[2];int*z;put(v);put(w[1]);put(z==0);":                                                                              "0 0 1",
		"x=3;int x=x+1;put(x);x=9;{int x=1;x++;put(x);}put(x);":                                                                         "4 2 9",
		"p=&x;*p=5;put(x);put(*p);*&x=6;put(*&*p);":                                                                                     "5 5 6",
		"p=a;put(*p);put(p[3]);put(*(p+2));put(*(1+p));put(p[1+1]);p=a+3;put(p[-3]);put(p[-1]);":                                        "10 40 30 20 30 10 30",
		"p=&a[1];put(*p++);put(*p--);put(*++p);put(*--p);put((*p)++);put(a[1]);put(++*p);put(--*p);put((*p)--);":                        "20 30 30 20 20 21 22 21 21",
		"r=&p;*r=a;put(**r);++*r;put(*p);put(r[0][1]);*r=0;put(p==0);*r=&x;**r=4;put(x);":                                               "10 20 30 1 4",
		"p=a+4;put(p-a);put(p==a+4);put(&a[4]==p);put(a-p);put(&a[4]-&a[1]);p--;put(*p);put(p+1==&a[4]);":                               "4 1 1 -4 3 40 1",
		"p=a;p+=(unsigned char)2;put(*p);m=-1;p+=m;put(*p);p-=m;put(*p);put(p[m]);put(*(m+p));put((p+m)-a);p=p-m;put(p-a);put(*&p[m]);": "30 20 30 20 20 1 3 30",
		"c[0]=300;put(c[0]);c[1]+=127;put(c[1]);c[2]++;put(c[2]);unsigned char w[2];w[0]--;put(w[0]);put(w[1]);":                        "44 -127 4 255 0",
		"a[x++]=x;put(a[0]);put(x);a[x]+=x=2;put(a[1]);put(x);x=1;x+=x++;put(x);x=1;x+=(x=5);put(x);x=3;put(x++-x);put(x=x++);":         "1 1 22 2 2 6 -1 4",
		"int i;for(i=0;i<4;i++)b[i]=a[3-i];put(b[0]);put(b[3]);put(b==a);put(b!=a);put(b-b);":                                           "40 10 0 1 0",
		"put(sizeof(int*));put(a[sizeof(char)]);put(*(a+sizeof(short)));":                                                               "8 20 30",
		"put(n==n);put(n!=n);put(n<n);put(n<=n);put(n>n);put(n>=n);put(n-n);put(n==0);put(0!=n);q=n;put(q==n);":                         "1 0 0 1 0 1 0 1 0 1",
		"put(&x==0);put(n==&x);put(a!=n);put(0!=a);put(a+4==0);put(a+4!=n);put(n==a+4);put(&x+1!=0);":                                   "0 0 1 1 0 1 0 1",
		"put(&x==&x);put(&x==&y);put(&x!=&y);put(&a[0]==a);put(&a[1]==a);put(a==b);put(&x==a);put(&x+1==&x+1);put(&x==&x+1);":           "1 0 1 1 0 0 0 1 0",
		"put(a<a+1);put(a<=a);put(a+4>a);put(a+1>=a+2);put(a+4<a+3);put(a<a+4);put(&x<&x+1);put(&x+1-&x);":                              "1 1 1 0 0 1 1 1",
		"put(!n);put(!a);put(!&x);put(n&&1);put(a&&1);put(n||0);put(a||0);put(n?1:2);put(&x?1:2);put(a+4&&1);if(n)put(7);if(a)put(8);":  "1 0 0 0 1 0 1 2 1 1 8",
		"p=1?a:n;put(*p);p=0?a:0;put(p==0);p=1?0:a;put(!p);p=x?0:b;put(p==b);put(*(x?b:a));put((1?a+4:b)-a);":                           "10 1 1 1 10 4",
		"&*n;put(&*n==0);p=&*(a+4);put(p-a);p=&p[-1];put(*p);&a[4];a+4;&*&*p;a;n;&x+1;put(&*&a[4]-a);":                                  "1 4 40 4",
		"put(!d(1));put(d(1)==0);put(0!=d(1));put(d(1)&&1);put(d(1)?3:4);p=d(1);q=p;put(n==p);put(p!=n);&*p;if(p)put(5);p=0;put(!p);":   "0 0 1 1 3 0 1 5 1",
		"while(x<3){int v;int w[2];if(!n){n=&v;q=w;}put(*n);put(q[1]);put(n==&v);v=x+1;w[1]=9;x++;}put(*n);":                            "0 0 1 0 0 1 0 0 1 3",
		"{int v=6;n=&v;}put(*n);{int w=7;put(*n);*n=8;put(w);}put(*n);":                                                                 "6 6 7 8",
	} {
		mainPuts(t, heap, body, want)
	}
}

// TestPointersOfVoid is of P5.1: those to void may be told and compared, and are none at first.
func TestPointersOfVoid(t *testing.T) {
	mainPuts(t, "void*v;void*w;void**u;void*g[3];", "put(v==0);put(v==w);put(v<w);put(v<=w);put(!v);v=w;u=&v;put(*u==0);put(u[0]==w);u=g;put(u+3-g);g[1]=*u;put(u[1]==0);put(v?1:2);v=1?0:v;put(v!=w);",
		"1 1 0 1 1 1 1 3 1 2 0")
}

// TestStuckReads is of P5.1: what is not there is neither read nor written.
func TestStuckReads(t *testing.T) {
	for _, place := range []string{"a[4]", "*(a+4)", "*n", "*&*n", "*d(1)", "e()[0]", "*&a[4]", "*(&x+1)", "p[1]", "q[0]", "*q", "c[3]"} {
		setup := "p=&x;q=d(2);"
		for _, use := range []string{"%", "put(%)", "%=1", "%+=1", "%++", "--%", "-%", "%+1", "1&&%", "int v=%", "x=%", "if(%)x=1", "a[%]=1", "%?1:1", "switch(%)case 1:"} {
			isStuck(t, heap, setup+strings.Replace(use, "%", "("+place+")", 1)+";")
		}
	}
}

// TestStuckMoves is of P5.1: pointers that are moved from where there is nothing, or too far.
func TestStuckMoves(t *testing.T) {
	for _, expr := range []string{
		"n+0", "0+n", "n-0", "n+1", "n++", "--n", "n+=0", "n-=1", "&n[0]", "n[0]", "&n[x]",
		"d(1)+0", "d(1)-0", "1+d(1)", "&d(1)[0]", "q++", "--q", "q+=0", "q[0]",
		"a+5", "5+a", "a-1", "a+-1", "a- -5", "&a[5]", "&a[-1]", "a[5]", "a[-1]=1", "p--", "p+=5", "p-=1", "&x+2", "&x-1", "c+4", "&c[-1]",
		"a+m", "m+a", "a[m]", "&a[m]", "p+=m", "a-(m-4)", "p-=m-4", "a+2147483648*4294967296", "a+9223372036854775807", "a-9223372036854775807", "(a+4)+9223372036854775807", "(a+1)-(-9223372036854775807-1)", "a+(-9223372036854775807-1)", "a+4294967295", "a+(unsigned int)-1",
	} {
		isStuck(t, heap, "m=-1;p=a;q=d(1);"+expr+";")
	}
	mainPuts(t, heap, "m=-1;p=a;a+0;a+4;a-0;a- -4;4+a;&a[4];p=a+4;p+=m-3;put(p-a);(a+4)-4;a-m;put(&x+1-&x);&c[3];a+(unsigned char)4;", "0 1")
}

// TestStuckPairs is of P5.1: two pointers of which it is not known how they lie.
func TestStuckPairs(t *testing.T) {
	ordered := []string{"-", "<", "<=", ">", ">="}
	matched := []string{"==", "!="}
	both := append(ordered, matched...)
	for _, c := range []struct {
		ops  []string
		pair string // a blank parts them
	}{
		{ordered, "a b"}, {ordered, "&x &y"}, {ordered, "a+1 &x"}, {ordered, "n a"}, {ordered, "a n"}, {ordered, "n a+4"}, {ordered, "&x+1 n"}, {ordered, "p n"}, {ordered, "n p"},
		{both, "p p"}, {both, "p q"}, {both, "p a"}, {both, "a p"}, {both, "p &x"}, {both, "a+4 p"}, {both, "p s"},
		{matched, "a+4 b"}, {matched, "b a+4"}, {matched, "a+4 b+4"}, {matched, "&x+1 &y"}, {matched, "&y &x+1"}, {matched, "&x+1 a"},
	} {
		left, right, _ := strings.Cut(c.pair, " ")
		for _, op := range c.ops {
			isStuck(t, heap, "int*s=e();p=d(1);q=p;s=e();("+left+")"+op+"("+right+");")
		}
	}
	isStuck(t, heap, "d(1)==d(1);")
	isStuck(t, heap, "put(e()-e());")
}

// TestPlaceFirst is of P5.1: of what is stored a place is found first, the value next; that it may
// not be stored there comes out at last, that op= may not read it ahead of the other side.
func TestPlaceFirst(t *testing.T) {
	f := heap + "int f(int v){exit(v);return 0;}"
	for _, expr := range []string{"*n=f(7)", "a[4]=f(7)", "*d(1)=f(7)", "(q=a+4)[0]=f(7)", "*(a+4)=f(7)", "*&a[4]=f(7)", "a[f(7)]=*n", "a[f(7)]+=1", "n[f(7)]", "a[f(7)]++"} {
		if o := ran(t, f+"int main(){"+expr+";}", nil, api.MaxFuel); o.Kind != api.OExit || o.Code != 7 {
			t.Errorf("%q: %s", expr, show(o))
		}
	}
	for _, expr := range []string{"*n+=f(7)", "a[4]+=f(7)", "*d(1)-=f(7)", "a[5]=f(7)", "n[0]=f(7)", "d(1)[0]=f(7)", "a[-1]=f(7)", "*n+f(7)", "a[5]+f(7)", "*n&&f(7)", "*n?f(7):1", "put(*n+f(7))"} {
		ends(t, f+"int main(){"+expr+";}", stuck)
	}
}

// TestFromTheLeft is of P5.1: the order in which parts are told, and which are not.
func TestFromTheLeft(t *testing.T) {
	decls := heap + "int*g(){put(1);return a;}int h(int v){put(v);return v;}int s(int v,int w,int x){return v+w+x;}"
	for body, want := range map[string]string{
		"g()[h(2)]=h(3);put(a[2]);":                   "1 2 3 3",
		"*g()+=h(4);put(a[0]);(*g())++;put(a[0]);":    "1 4 14 1 15",
		"put(h(5)-h(6)*h(7));put(g()==g()+h(2));":     "5 6 7 -37 1 1 2 0",
		"put(h(0)&&h(9));put(h(3)&&h(0));":            "0 0 3 0 0",
		"put(h(1)||h(9));put(h(0)||h(4));":            "1 1 0 4 1",
		"put(h(0)?h(9):h(8));put(h(2)?h(3):h(9));":    "0 8 8 2 3 3",
		"put(s(h(1),h(2),h(3)));":                     "1 2 3 6",
		"put(h(9)>h(8));put(h(9)>=h(8));":             "9 8 1 9 8 1",
		"a[h(1)]=a[h(2)]=h(3);put(a[1]);put(a[2]);":   "1 2 3 3 3",
		"a[h(1)]+=a[h(2)]-=h(3);put(a[1]);put(a[2]);": "1 2 3 47 27",
	} {
		mainPuts(t, decls, body, want)
	}
}
