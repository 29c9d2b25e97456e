package lower_test

import (
	"strings"
	"testing"
)

const things = "int x;int y;int a[4]={10,20,30,40};int b[4];int*n;int*p;int*q;int**r;char c[3]={1,2,3};unsigned long m;long*w[3];void*v;" +
	"int*d(int v){return &v;}int h(int v){put(v);return v;}int*g(){put(1);return a;}int s(int v,int w,int x){return v*100+w*10+x;}"

// TestExpressions is of P8.1: each kind of expression, alone and within others.
func TestExpressions(t *testing.T) {
	for body, want := range map[string]string{
		"put(1);put(2147483648);put(sizeof(short));put(sizeof(int*));put(sizeof(char)-2);":                                                         "1 2147483648 2 8 -1",
		"x=3;put(x);int z=x;put(z);put(z=5);put(x=z=6);put(z+x);":                                                                                  "3 3 5 6 12",
		"put(a[1]);put(*a);put(*(a+2));put(a[x+3]);a[x]=7;put(a[0]);*(a+1)=8;put(a[1]);put(c[2]);":                                                 "20 10 30 40 7 8 3",
		"p=&x;*p=4;put(x);put(*&x);int z;p=&z;*p=5;put(z);put(p==&z);put(*&z);":                                                                    "4 4 5 1 5",
		"put(-x);put(-(x+1));put(~x);put(!x);put(!!x);put(!a);put(!n);put(- -5);put(-~-~5);":                                                       "0 -1 -1 1 0 0 1 5 7",
		"put((char)300);put((unsigned char)-1);put((long)x);put((int)4294967297);":                                                                 "44 255 0 1",
		"put(x++);put(x);put(++x);put(x--);put(--x);put(x);x++;++x;put(x);x--;--x;put(x);":                                                         "0 1 2 2 0 0 2 0",
		"int z;put(z++);put(z);put(++z);put(z--);put(--z);put(z);z++;++z;put(z);z--;--z;put(z);":                                                   "0 1 2 2 0 0 2 0",
		"put(a[1]++);put(a[1]);put(--a[1]);p=a;put(*p++);put(*p);put((*p)--);put(*p);put(*--p);":                                                   "20 21 20 10 20 20 19 10",
		"put(x&&h(1));put(1&&h(2));put(x||h(3));put(1||h(4));put(x&&y||1);put((x||1)&&y);":                                                         "0 2 1 3 1 1 1 0",
		"put(1?h(1):h(2));put(x?h(1):h(2));put(x?1:y?2:3);put((x?y:2)+(1?3:4));":                                                                   "1 1 2 2 3 5",
		"x+=5;put(x);x-=2;put(x*=7);x/=2;put(x);x%=4;put(x);x<<=5;put(x);x>>=1;x|=3;put(x);x&=6;put(x);x^=7;put(x);":                               "5 21 10 2 64 35 2 5",
		"int z;z+=5;put(z);z-=2;put(z*=7);z/=2;put(z);z%=4;put(z);z<<=5;put(z);z>>=1;z|=3;put(z);z&=6;put(z);z^=7;put(z);":                         "5 21 10 2 64 35 2 5",
		"a[1]+=5;put(a[1]);*(a+1)-=2;put(a[1]*=2);p=a;p[2]/=7;put(a[2]);*p%=4;put(a[0]);c[1]<<=7;put(c[1]);c[2]+=127;put(c[2]);":                   "25 46 4 2 0 -126",
		"p=a;p+=2;put(*p);p-=1;put(*p);put(*(p+=2));p=&p[-1];put(p-a);r=&p;*r+=1;put(**r);(*r)--;put(*p);":                                         "30 20 40 2 40 30",
		"if(x&&y||!x&&!y)put(1);if(!(x||y))put(2);while(!(x>1&&y>1)){x++;y+=2;}put(x);put(y);if(x?y:0)put(3);":                                     "1 2 2 4 3",
		"x&&h(1);1&&h(2);x||h(3);1||h(4);x?h(5):h(6);1?put(7):put(8);x&&x;x||x;x?1:2;":                                                             "2 3 6 7",
		"(x=1)+(y=2);put(x);put(y);-(x=3);!(y=4);~(x+=y);put(x);(char)(x=300);put(x);a[x=2];*(p=a);&a[y=1];&*(p=b);put(x+y);put(p==b);":            "1 2 7 300 3 1",
		"1+2*3;put(1+2*3);put((5-8)/2);put(7&12|1);put(1<2==1);put(1+(2<<3)-(9%5));put(3>2!=0);":                                                   "7 -1 5 1 13 1",
		"w[1]=0;put(w[1]==0);v=0;put(v==0);put(!v);void**u=&v;put(*u==v);put(u[0]!=0);long l=3;w[2]=&l;*w[2]+=4;put(l);put(w[2][0]);put(**(w+2));": "1 1 1 1 0 7 7 7",
	} {
		mainPuts(t, things, body, want)
	}
}

// TestOrder is of P8.1: the order in which operands, arguments and what is assigned to are told.
func TestOrder(t *testing.T) {
	for body, want := range map[string]string{
		"put(h(5)-h(6)*h(7));put(g()==g()+h(2));":     "5 6 7 -37 1 1 2 0",
		"g()[h(2)]=h(3);put(a[2]);":                   "1 2 3 3",
		"*g()+=h(4);put(a[0]);(*g())++;put(a[0]);":    "1 4 14 1 15",
		"put(h(0)&&h(9));put(h(3)&&h(0));":            "0 0 3 0 0",
		"put(h(0)?h(9):h(8));put(h(2)?h(3):h(9));":    "0 8 8 2 3 3",
		"put(s(h(1),h(2),h(3)));":                     "1 2 3 123",
		"put(h(9)>h(8));put(h(9)>=h(8));":             "9 8 1 9 8 1",
		"a[h(1)]=a[h(2)]=h(3);put(a[1]);put(a[2]);":   "1 2 3 3 3",
		"a[h(1)]+=a[h(2)]-=h(3);put(a[1]);put(a[2]);": "1 2 3 47 27",
		"put(get()-get()*get());":                     "-40",
		// of globals
		"x=2;put(x+(x=3));put((x=4)+x);put(x+x++);put(x);put(x+++x);put(x);put(x-(x-=2));":  "5 8 8 5 11 6 2",
		"x=1;x+=x++;put(x);x=1;x+=(x=5);put(x);x=3;put(x++-x);put(x=x++);put(x);":           "2 6 -1 4 4",
		"x=1;put(s(x,x=2,x));put(s(x++,x++,x++));put(s(x,++x,x));":                          "122 234 566",
		"a[x++]=x;put(a[0]);put(x);a[x]+=x=2;put(a[1]);put(x);a[x]=x++;put(a[2]);":          "1 1 22 2 2",
		"x=1;put(a[x]+(x=2));put(a[x]+a[x=1]);put(a[x]-(a[x]=5));put(a[x]);":                "22 50 15 5",
		"p=a;put(*p+*++p);put(*p+*p++);put(*p);*p=*p+1;put(*p);*p++=*p;put(a[2]);put(p-a);": "30 40 30 31 40 3",
		"p=a;p[1]=(p=b)==b;put(a[1]);put(b[1]);p=a;*p+=(p=b)==b;put(a[0]);put(b[0]);":       "1 0 11 0",
		"p=a;q=p++;put(q-a);put(p-a);put(p-(p-=1));put(p==p++);put(p-a);":                   "0 1 1 1 1",
		"x=5;put(x?x=0:7);put(x);put((x=3)&&(x=0));put(x);put(x||(x=9));put(x+(x?x=1:0));":  "0 0 0 0 1 10",
		"x=1;put(x*(x&&(x=3)));put(x*(0||(x=4)));put(x+(y?1:(x=2)));put(x);":                "1 3 6 2",
	} {
		mainPuts(t, things, body, want, 30, 7, 10)
		// of locals
		if strings.HasPrefix(body, "x=") {
			mainPuts(t, things, "int x;int y;"+body, want)
			mainPuts(t, things, "int x;int y;&x;"+body, want)
		}
	}
	// A call changes globals, and what there are pointers to, ahead of what is told behind it.
	decls := "int x;int a[3];int f(){x=5;a[1]=7;return 1;}int k(int*q){*q=*q*2;return 1;}"
	for body, want := range map[string]string{
		"x=2;put(x+f());x=2;put(f()+x);x=2;x+=f();put(x);x=f();put(x);x=-f();put(x);":      "3 6 3 1 -1",
		"put(a[1]+f());put(a[1]);a[1]=3;a[1]+=f();put(a[1]);a[f()]+=1;put(a[1]);":          "1 7 4 8",
		"int z=3;put(z+k(&z));put(z);put(k(&z)+z);z+=k(&z);put(z);z=k(&z)+z;put(z);":       "4 6 13 13 27",
		"int z[2];z[1]=3;put(z[1]+k(z+1));put(z[1]);z[1]-=k(&z[1]);put(z[1]);":             "4 6 5",
		"int z=3;int y=z+f();put(y);put(x);int*q=&x;put(*q-k(q));put(*q);*q+=k(q);put(x);": "4 5 4 10 11",
	} {
		mainPuts(t, decls, body, want)
	}
}

// TestPointers is of P8.1: addresses of all there is, pointers to pointers, and what may be told of
// them: moved, compared, subtracted, asked whether they are none.
func TestPointers(t *testing.T) {
	for body, want := range map[string]string{
		"p=a;put(*p);put(p[3]);put(*(1+p));p=a+3;put(p[-3]);put(*(p-1));p=&a[1];put(p-a);put(a-p);":                            "10 40 20 10 30 1 -1",
		"p=a+4;put(p-a);put(p==a+4);put(&a[4]==p);put(&a[4]-&a[1]);p--;put(*p);put(p+1==&a[4]);put(a+4>p);":                    "4 1 1 3 40 1 1",
		"p=a;p+=(unsigned char)2;put(*p);m=-1;p+=m;put(*p);p-=m;put(*p);put(p[m]);put(*(m+p));put((p+m)-a);p=p-m;put(p-a);":    "30 20 30 20 20 1 3",
		"put(n==n);put(n!=n);put(n<n);put(n<=n);put(n-n);put(n==0);put(0!=n);put(a!=n);put(&x==n);put(a+4==0);":                "1 0 0 1 0 1 0 1 0 0",
		"put(&x==&x);put(&x==&y);put(&x!=&y);put(&a[0]==a);put(&a[1]==a);put(a==b);put(&x+1==&x+1);put(&x+1-&x);":              "1 0 1 1 0 0 1 1",
		"put(a<a+1);put(a<=a);put(a+4>a);put(a+1>=a+2);put(a+4<a+3);put(&x<&x+1);":                                             "1 1 1 0 0 1",
		"put(!n);put(!a);put(n&&1);put(a&&1);put(n||0);put(a||0);put(n?1:2);put(&x?1:2);if(n)put(7);if(a)put(8);while(n);":     "1 0 0 1 0 1 2 1 8",
		"p=1?a:n;put(*p);p=0?a:0;put(p==0);p=1?0:a;put(!p);put(*(x?b:a));put((1?a+4:b)-a);":                                    "10 1 1 10 4",
		"&*n;put(&*n==0);p=&*(a+4);put(p-a);&a[4];a+4;&*&*p;n;*&a[1];put(&*&a[4]-a);":                                          "1 4 4",
		"put(!d(1));put(d(1)==0);put(0!=d(1));put(d(1)&&1);put(d(1)?3:4);p=d(1);q=p;put(n==p);if(p)put(5);p=0;put(!p);":        "0 0 1 1 3 0 5 1",
		"r=&p;*r=a;put(**r);++*r;put(*p);put(r[0][1]);*r=0;put(p==0);*r=&x;**r=4;put(x);int*z=a;r=&z;++*r;put(*z);put(*r==z);": "10 20 30 1 4 20 1",
		"int**u[2];u[1]=&p;*u[1]=a+1;put(***(u+1));put(u[0]==0);int***t=&u[1];***t=5;put(a[1]);put(**t-a);":                    "20 1 5 1",
		"{int z=6;n=&z;}put(*n);{int z=7;put(*n);*n=8;put(z);}put(*n);":                                                        "6 6 7 8",
		"int z;int k=1;p=&z;q=&k;put(p==q);*p=3;*q+=*p;put(z);put(k);p=q;*p=0;put(k);put(*p==*q);":                             "0 3 4 0 1",
		"char e[3];char*i=e;*i++=300;*i=-1;put(e[0]);put(e[1]);put(i-e);e[2]=e[0]+e[1]*2;put(*++i);put(i-e+1==3);":             "44 -1 1 42 1",
		"w[0]=w[1];put(w+3-w);put(w[2]==0);long l[3];w[1]=l+2;*w[1]=9;put(l[2]);put(w[1]-l);put(*(w+1)-&l[1]);":                "3 1 9 2 1",
	} {
		mainPuts(t, things, body, want)
	}
	puts(t, "void*v;void*w;void**u;void*g[3];int main(){put(v==0);put(v<w);put(v<=w);v=w;u=&v;put(*u==0);u=g;put(u+3-g);g[1]=*u;put(v?1:2);v=1?0:v;put(v!=w);}", "1 0 1 1 3 2 0")
	for _, kind := range kinds() {
		puts(t, strings.ReplaceAll("T a[5];T*p;int main(){p=a+2;*p=1;p[1]=2;put(a[2]);put(a[3]);put(p-a);put(&p[2]-p);p+=get();put(p-a);p--;put(--p-a);put(a[(char)2]);put(*(p+(unsigned long)1));put(p<a+5);T b[3];p=b;p[2]=7;put(b[2]);put(p+3-b);}", "T", kind), "1 2 2 2 5 3 1 0 1 7 3", 3)
	}
}
