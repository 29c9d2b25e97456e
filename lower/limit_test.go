package lower_test

import (
	"strconv"
	"strings"
	"testing"

	"gantlet/api"
	"gantlet/check"
	"gantlet/parse"
)

// checks tells whether s parses and checks.
func checks(s string) bool {
	u, f := parse.Parse(s)
	if f.Err == 0 {
		_, f = check.Check(u)
	}
	return f.Err == 0
}

// most holds of head, as many of part as there may be, and tail, that it does what it should, and
// tells how many there were.
func most(t *testing.T, head, part, tail string, in ...int64) int {
	t.Helper()
	n := 1
	for checks(head + strings.Repeat(part, n+1) + tail) {
		n++
	}
	holds(t, head+strings.Repeat(part, n)+tail, in...)
	return n
}

// TestManyStatements is of P8.1: functions of as many statements and expressions as there may be, of
// each kind, in memory and not; what they come to may be.
func TestManyStatements(t *testing.T) {
	t.Parallel()
	globals := "char c=3;int i=1;unsigned int u=5;long l;int*p;int**r;int a[9]={1,2};int f(int n){return n-1;}"
	locals := "char c=3;int i=1;unsigned int u=5;long l=0;int*p=0;int**r=0;"
	pointed := "&c;&i;&u;&l;&p;&r;"
	set := "p=a;r=&p;"
	for _, part := range []string{
		";", "{}", "c;", "i++;", "c--;", "--l;", "p++;p--;", "i=i;", "c=-c;", "u=~u;", "i+=i;", "c/=c;", "c<<=c;", "u>>=c;", "*p=i;", "*p+=c;", "p+=i&1;p-=i&1;", "p[i&1]=i;", "p[i&3]++;", "p[i++&3]++;", "p[i++&3]+=i++;", "p[p[i&3]&3]^=1;",
		"(*r)[i&3]*=i;", "r[0][i++&3]-=p[i++&1];", "i=c?c:u;", "i=c&&i;", "i=c||i||u;", "i=c&&i||c&&!u;", "i=!i;", "if(c);", "if(c)i++;", "if(c)i++;else c++;", "if(c&&i||u)i--;", "while(c)c--;", "while(c&&i--);", "do;while(c--);", "do i++;while(i<0);", "for(;;)break;", "for(i=2;i;i--);", "for(i=0;i<2;i++)if(i)continue;",
		"switch(c);", "switch(c++)default:", "switch(c++){case 3:i++;break;case 4:i--;default:u++;}", "f(i);", "f(i++);", "put(i++);", "put(get());", "get();", "i=f(c);", "i=f(f(i));", "i=f(c)+f(i)*f(c);", "i=i+(i++);", "i=(i=2)+(i=3);", "c=c+c*c-c;", "c?put(c):put(i);", "c&&i++;", "c||i++;", "l=&p[i&1]-p;", "l=p<p+1;", "*&i=i;", "l=*p**p;", "p=c?p:*r;", "i=(char)u;", "a[c&7]=a[i&7]+a[u&7];", "i=p[i&1]+p[c&1]*(p[u&1]-=1);", "if(i)goto e;", "put(c+i*u-l);",
	} {
		for _, head := range []string{"", locals, locals + pointed} {
			if n := most(t, globals+"int main(){"+head+set, part, "e:;}", 3, 2, 1); n < 10 {
				t.Errorf("%q: %d", part, n)
			}
		}
	}
	if n := most(t, "int main(){", ";", "}"); n != api.MaxNodes {
		t.Errorf("%d", n)
	}
}

// TestLongExpressions is of P8.1: expressions whose trees are larger than one may be.
func TestLongExpressions(t *testing.T) {
	t.Parallel()
	things := "char c=3;unsigned char d=200;int i=2;unsigned int u=5;long l=7;int*p;int a[9]={1,2,3,4,5};int f(int n,int m){return n*3-m;}"
	locals := "char c=3;unsigned char d=200;int i=2;unsigned int u=5;long l=7;int*p=0;int a[9];"
	for _, part := range []string{"+c", "-d*c", "+a[i]", "*a[a[i&3]&3]", "+p[i&3]-*p", "^i<<c", "|u>>d", "+(i=i+1)", "-i++", "+f(i,c)", "+f(i++,i)", "*(c&&d)", "+(c?d:i)", "+(u/d-l%c)", "&-~-c", "+(&a[i&3]-p)", "+(p==a)", "<<(c<d)", "+((unsigned short)l*c)"} {
		for _, op := range []string{"put(l", "l=(i", "p[1]=(l", "p[i]+=(c", "if(u", "a[(l"} {
			tail := map[byte]string{'p': ")", 'l': ")", 'i': ")put(1)", 'a': "&7)]++"}[op[0]]
			if strings.HasPrefix(op, "p[") || op[0] == 'l' {
				tail = ")"
			}
			for _, head := range []string{"", locals} {
				if n := most(t, things+"int main(){"+head+"p=a;"+op, part, tail+";put(l);put(a[1]);put(i);}"); n < 15 {
					t.Errorf("%q, %q: %d", op, part, n)
				}
			}
		}
	}
	// One that hangs on all of its operands being told in time.
	var l []int64
	for i := range 48 {
		l = append(l, int64(i*i))
	}
	s := "int x;int main(){put(get()"
	want := int64(0)
	for i, n := range l {
		if i > 0 {
			s += []string{"+", "-"}[i%2] + "get()"
			n *= int64(1 - i%2*2)
		}
		want += n
	}
	puts(t, s+");}", strconv.FormatInt(want, 10), l...)
}

// TestDeepExpressions is of P8.1: as deep as there may be.
func TestDeepExpressions(t *testing.T) {
	for _, c := range [][2]string{{"-", ""}, {"~", ""}, {"!", ""}, {"(char)", ""}, {"x=", ""}, {"x+=", ""}, {"1+(", ")"}, {"x-(2*", ")"}, {"a[3&", "]"}, {"f(", ")"}, {"x?", ":2"}, {"x?3:", ""}, {"x++-(", ")"}, {"1&&(", ")"}, {"a[x]+(x=", ")"}} {
		n := 1
		text := func(n int) string {
			return "int x=1;int a[9]={3,1,4,1};int f(int n){return n+1;}int main(){put(" + strings.Repeat(c[0]+" ", n) + "x" + strings.Repeat(c[1], n) + ");put(x);}"
		}
		for checks(text(n + 1)) {
			n++
		}
		if n < 8 {
			t.Errorf("%q: %d", c, n)
		}
		holds(t, text(n))
	}
	deep := "int main(){int x;" + strings.Repeat("{", 16) + "put(x);" + strings.Repeat("}", 16) + "}"
	puts(t, deep, "0")
	holds(t, "int main(){int x;"+strings.Repeat("if(x<3)while(x++<2)", 8)+"put(x);}")
	holds(t, "int main(){int x;"+strings.Repeat("do ", 16)+"put(x);"+strings.Repeat("while(x++<9);", 16)+"}")
}

// TestManyThings is of P8.1: so many parameters, locals, globals and functions, elements and values
// as there may be.
func TestManyThings(t *testing.T) {
	decls, body := "", ""
	for i := range api.MaxGlobals {
		n := strconv.Itoa(i)
		decls += "long g" + n + "[64]={1,2};"
		body += "g" + n + "[63]=" + n + ";put(g" + n + "[63]+g" + n + "[0]);"
	}
	mainPuts(t, decls, body, numbers(upTo(17)[1:]))
	for _, kind := range []string{"char ", "long ", "int*"} {
		decls, body, all := "", "", ""
		for i := range api.MaxLocals {
			n := strconv.Itoa(i)
			decls += kind + "v" + n + "[64];"
			body += "v" + n + "[1]=v" + n + "[63];"
			all += kind + "v" + n + ";v" + n + "=0;"
		}
		puts(t, "int main(){"+decls+body+"}", "")
		puts(t, "int main(){"+all+"}", "")
		puts(t, "int f(int a,char b,long c,short d){"+decls[:strings.Index(decls, kind+"v20[")]+"put(a+b+c+d);&a;&b;&c;&d;}int main(){1?0:f(1,2,3,4);}", "")
	}
	s, sum := "", ""
	for i := range api.MaxFuncs - 1 {
		n := strconv.Itoa(i)
		s += "long f" + n + "(long a,int*b,char c,long d){return a*1000+*b*100+c*10+d+" + n + ";}"
		sum += "put(f" + n + "(1,&x,3,4));"
	}
	puts(t, s+"int main(){int x=2;"+sum+"}", "1234 1235 1236 1237 1238 1239 1240")
	full := ""
	for i := range 64 {
		full += "," + strconv.Itoa(i*3)
	}
	puts(t, "short a[64]={"+full[1:]+"};int main(){int i;int s;for(i=0;i<64;i++)s+=a[i];put(s);put(a[63]);}", "6048 189")
}

// TestFuel is of P8.1: what takes most steps of all, for as many as the model takes.
func TestFuel(t *testing.T) {
	cases := ""
	for i := range 190 {
		cases += "case " + strconv.Itoa(i) + ":"
	}
	for _, s := range []string{
		"int main(){int i=189;l:switch(i){" + cases + "if(i--)goto l;}}",
		"int main(){int i;for(i=0;i<200;i++){switch(i){" + cases + "}}}",
		"int main(){int i=400;while(i--)switch(500){" + cases + "}}",
		"int main(){int i;while(i++<30){int a[64];long b[64];}}",
		"int main(){int i;while(i++<300){int a[4];char b[5];}}",
		"int main(){int i;while(i++<600){int a[1];int*b[2];}}",
		"int f(int a,int b,int c,int d){&a;&b;&c;&d;return 0;}int main(){int i;while(i++<100)f(1,2,3,4);}",
		"void f(){}int main(){int i;while(i++<500)f();}",
		"int main(){int i;for(;i++<900;);}",
		"int main(){int i;do;while(i++<900);}",
		"int a[2];int main(){int i;while(i<300)a[i&1]=a[i&1]+a[i++&1];}",
		"int main(){int i;int x;while(i++<200)x=i&&x||!i&&!x||i;}",
		"int main(){int i;int x;while(i++<200)x=i?x?1:0:x?0:1;}",
	} {
		o, steps := holds(t, s)
		if o.Kind != api.OExit && o.Kind != api.OFuel || o.Steps < 1000 || steps > 5*(o.Steps+10) {
			t.Errorf("%q: %s, %d, %d", s, show(o), o.Steps, steps)
		}
	}
}
