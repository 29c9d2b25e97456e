package check_test

import (
	"strings"
	"testing"

	"gantlet/api"
	"gantlet/check"
)

// TestOrder is of P4.1: of two faults the one that stands first, and the other one, if they
// stand the other way round.
func TestOrder(t *testing.T) {
	for _, c := range []struct {
		s   string
		err api.Errno
	}{
		// globals, functions, bodies
		{"int a;int `a;void b;int main(){}", api.ErrName}, {"int a;void `b;int a;int main(){}", api.ErrType}, {"int a;void `a;int main(){}", api.ErrName}, {"int a;int*`a=1;int main(){}", api.ErrName}, {"int*`a=1;int*b=1;int main(){}", api.ErrType}, {"void `a;int*b=1;int main(){}", api.ErrType}, {"int***`a[1]={1};int main(){}", api.ErrType},
		{"int f(int a,int a){}void `x;int main(){}", api.ErrType}, {"int put(){}int `get;int main(){}", api.ErrName}, {"int main(){x;}void `x;", api.ErrType}, {"int main(){}int put(){}void `x;", api.ErrType}, {"int main(){x;}int f(void `a){}", api.ErrType}, {"int main(){x;}int `put(){}", api.ErrName},
		{"int f(){}int `f(void a){}int main(){}", api.ErrName}, {"int f(void `a){}int f(){}int main(){}", api.ErrType}, {"int f(int a,int `a){}int f(){}int main(){}", api.ErrName}, {"int f(int a,void `a,int a){}int main(){}", api.ErrName}, {"int f(void `a,int a){}int main(){}", api.ErrType}, {"int f(int a,int b,void `c,int b){}int main(){}", api.ErrType}, {"int f(int a,int `a,void c){}int main(){}", api.ErrName},
		{"int f(){`x;}int main(){y;}", api.ErrName}, {"int f(){`y;}int main(){x;}", api.ErrName}, {"int f(){`break;}int main(){x;}", api.ErrPlace},
		// main comes last of all
		{"int f(){`x;}", api.ErrName}, {"int main(int a){`x;}", api.ErrName}, {"int main(int a){}int f(){`x;}", api.ErrName}, {"int main(int a,int `a){}", api.ErrName}, {"void main(){return `1;}", api.ErrType}, {"int f(){`goto x;}", api.ErrName}, {"int f(int a){`int a;}", api.ErrName}, {"int `main(int a){}int f(){}", api.ErrType},
		// a jump comes behind the whole body, ahead of the next function's
		{"int main(){goto x;`y;}", api.ErrName}, {"int main(){goto x;{{`break;}}}", api.ErrPlace}, {"int f(){`goto x;}int main(){y;}", api.ErrName}, {"int main(){`goto x;goto y;}", api.ErrName}, {"int main(){a:goto x;`a:}", api.ErrName}, {"int main(){x:goto x;`goto y;{goto z;}}", api.ErrName},
		// a declaration's parts
		{"int main(){void x=`y;}", api.ErrName}, {"int main(){int a;`void a;}", api.ErrName}, {"int main(){int a;`int a=put(1);}", api.ErrName}, {"int main(){`void a=put(1);}", api.ErrType}, {"int main(){int a;int a=`y;}", api.ErrName},
		// an expression's parts, from the left, ahead of itself
		{"int main(){`x+y;}", api.ErrName}, {"int main(){`y+x;}", api.ErrName}, {"int main(){put(1)+`x;}", api.ErrName}, {"int main(){put(1)`+1+x;}", api.ErrType}, {"int main(){(put(1)`+1)+x;}", api.ErrType}, {"int main(){`x+(put(1)+1);}", api.ErrName}, {"int main(){1+(put(1)`+1)+x;}", api.ErrType},
		{"int main(){f(`x);}", api.ErrName}, {"int main(){put(1,`x);}", api.ErrName}, {"int main(){put(`x,y,1);}", api.ErrName}, {"int main(){put(1,`f(2));}", api.ErrName}, {"int main(){`x[y];}", api.ErrName}, {"int main(){1[`y];}", api.ErrName}, {"int main(){1`[2][x];}", api.ErrType},
		{"int main(){1=`x;}", api.ErrName}, {"int main(){`x=y;}", api.ErrName}, {"int main(){1`=2;x;}", api.ErrPlace}, {"int main(){1`=put(1);}", api.ErrPlace}, {"int main(){1`+=put(1);}", api.ErrPlace}, {"int main(){put(1)`=put(1);}", api.ErrPlace}, {"int main(){put(1)`++;}", api.ErrPlace}, {"int main(){1=2`=3;}", api.ErrPlace}, {"int main(){(1`=2)=3;}", api.ErrPlace}, {"int main(){`--put(1);}", api.ErrPlace}, {"int main(){`&put(1);}", api.ErrPlace},
		{"int main(){`x?y:z;}", api.ErrName}, {"int main(){1?`y:z;}", api.ErrName}, {"int main(){put(1)?2:`z;}", api.ErrName}, {"int main(){put(1)`?2:3;}", api.ErrType}, {"int main(){-`x;}", api.ErrName}, {"int main(){-(1`=2);}", api.ErrPlace}, {"int main(){(void)`x;}", api.ErrName}, {"int main(){`(void)1;x;}", api.ErrType}, {"int main(){`x;(void)1;}", api.ErrName},
		// statements
		{"int main(){`x;y;}", api.ErrName}, {"int main(){`break;x;}", api.ErrPlace}, {"int main(){`x;break;}", api.ErrName}, {"int main(){{{`x;}}break;}", api.ErrName}, {"int main(){{{`break;}}x;}", api.ErrPlace},
		{"int main(){if(`x)y;else z;}", api.ErrName}, {"int main(){if(1)`y;else z;}", api.ErrName}, {"int main(){if(1);else `z;w;}", api.ErrName}, {"int main(){if(`put(1))x;}", api.ErrType}, {"int main(){while(`put(1))x;}", api.ErrType}, {"int main(){while(1)`x;y;}", api.ErrName},
		{"int main(){do `x;while(y);}", api.ErrName}, {"int main(){do `x;while(put(1));}", api.ErrName}, {"int main(){do `case 1:while(put(1));}", api.ErrPlace}, {"int main(){do;while(`put(1));x;}", api.ErrType},
		{"int main(){for(`x;y;z)w;}", api.ErrName}, {"int main(){for(1;`y;z)w;}", api.ErrName}, {"int main(){for(1;1;`z)w;}", api.ErrName}, {"int main(){for(1;1;1)`w;v;}", api.ErrName}, {"int main(){for(1;`put(1);x)y;}", api.ErrType}, {"int main(){for(`x;put(1);1);}", api.ErrName}, {"int main(){for(;;`x)break;}", api.ErrName}, {"int main(){for(;;`x)case 1:}", api.ErrName},
		{"int main(){switch(`put(1)){x;}}", api.ErrType}, {"int main(){switch(`x)case 1:}", api.ErrName}, {"int main(){switch(1){case 1:`x;case 1:}}", api.ErrName}, {"int main(){switch(1){case 1:`case 1:x;}}", api.ErrName}, {"int main(){int*p;switch(`p){case 1:case 1:}}", api.ErrType},
		{"int main(){return put(`x);}", api.ErrName}, {"int main(){return `put(1);x;}", api.ErrType}, {"void f(){return `x;}int main(){}", api.ErrName}, {"int f(){`return;x;}int main(){}", api.ErrType}, {"int main(){a:`a:x;}", api.ErrName}, {"int main(){a:`x;a:}", api.ErrName},
	} {
		refusesAt(t, c.s, c.err)
	}
}

// spot is a fault in one statement, or in one item: its place is marked.
type spot struct {
	s   string
	err api.Errno
}

// spotHead is what is declared ahead of each of them.
const spotHead = "void*v;int i;int***p;int a[2];"

// spots are faults of all kinds.
func spots() []spot {
	return []spot{
		{"`x;", api.ErrName}, {"1`[1];", api.ErrType}, {"`*1;", api.ErrType}, {"`&1;", api.ErrPlace}, {"`&p;", api.ErrLimit}, {"`-p;", api.ErrType}, {"`~p;", api.ErrType}, {"`!put(1);", api.ErrType}, {"`(int)p;", api.ErrType}, {"`(int*)1;", api.ErrType}, {"`(void)1;", api.ErrType}, {"`sizeof(void);", api.ErrType},
		{"`++1;", api.ErrPlace}, {"`++v;", api.ErrType}, {"1`--;", api.ErrPlace}, {"v`--;", api.ErrType}, {"p`*1;", api.ErrType}, {"1`/p;", api.ErrType}, {"p`%p;", api.ErrType}, {"p`+p;", api.ErrType}, {"v`+1;", api.ErrType}, {"1`+v;", api.ErrType}, {"1`-p;", api.ErrType}, {"p`-v;", api.ErrType}, {"v`-v;", api.ErrType}, {"v`-1;", api.ErrType},
		{"p`<<1;", api.ErrType}, {"1`>>p;", api.ErrType}, {"p`<0;", api.ErrType}, {"0`>=p;", api.ErrType}, {"p`==1;", api.ErrType}, {"p`!=v;", api.ErrType}, {"put(1)`==0;", api.ErrType}, {"p`&1;", api.ErrType}, {"1`^p;", api.ErrType}, {"p`|p;", api.ErrType}, {"put(1)`&&1;", api.ErrType}, {"1`||put(1);", api.ErrType},
		{"put(1)`?1:2;", api.ErrType}, {"1`?p:1;", api.ErrType}, {"1`?p:v;", api.ErrType}, {"1`?put(1):1;", api.ErrType}, {"1`=1;", api.ErrPlace}, {"a`=0;", api.ErrPlace}, {"i`=p;", api.ErrType}, {"p`=1;", api.ErrType}, {"p`=v;", api.ErrType}, {"p`*=1;", api.ErrType}, {"i`+=p;", api.ErrType}, {"p`-=p;", api.ErrType}, {"v`+=1;", api.ErrType}, {"1`|=1;", api.ErrPlace},
		{"`f();", api.ErrName}, {"`put();", api.ErrType}, {"`put(p);", api.ErrType}, {"`get(1);", api.ErrType}, {"if(`put(1));", api.ErrType}, {"while(`put(1));", api.ErrType}, {"do;while(`put(1));", api.ErrType}, {"for(;`put(1););", api.ErrType}, {"switch(`p);", api.ErrType}, {"switch(`put(1));", api.ErrType}, {"int z=`p;", api.ErrType}, {"int*z=`1;", api.ErrType},
		{"`void z;", api.ErrType}, {"`void z[1];", api.ErrType}, {"`int***z[1];", api.ErrType}, {"int z;`int z;", api.ErrName}, {"int z=`z;", api.ErrName}, {"return `p;", api.ErrType}, {"`return;", api.ErrType}, {"`break;", api.ErrPlace}, {"`continue;", api.ErrPlace}, {"`case 1:", api.ErrPlace}, {"`default:", api.ErrPlace}, {"switch(1){case 1:`case 1:}", api.ErrName}, {"switch(1){default:`default:}", api.ErrName}, {"L:`L:", api.ErrName},
	}
}

// TestTwo is of P4.1: of each two faults, one behind the other, the first one; and each alone,
// in a block, in another statement, in another function.
func TestTwo(t *testing.T) {
	const head = spotHead
	for _, x := range spots() {
		for _, in := range []string{"%", "{%}", "if(1){%}", "if(1);else{%}", "1;{;{;%}}1;"} {
			refusesAt(t, inMain(head, strings.Replace(in, "%", x.s, 1)), x.err)
		}
		refusesAt(t, "int other(){{"+x.s+"}y;}int main(){y;}"+head, x.err)
		refusesAt(t, "int other(int p){}int main(){{"+x.s+"}goto M;}"+head, x.err)
		for _, y := range spots() {
			behind := strings.Replace(y.s, "`", " ", 1)
			refusesAt(t, inMain(head, "{"+x.s+"}{"+behind+"}"), x.err)
			refusesAt(t, head+"int main(){{"+x.s+"}}int other(){{"+behind+"}}", x.err)
		}
		// a jump without a label is told behind it, main behind that
		refusesAt(t, inMain(head, "goto M;{"+x.s+"}"), x.err)
		refusesAt(t, head+"long main(){{"+x.s+"}}", x.err)
		refusesAt(t, head+"int other(){{"+x.s+"}}", x.err)
	}
}

// TestKidsAhead is of P4.1: in each kind of expression each kid's fault ahead of its own, the
// left one's ahead of the others'.
func TestKidsAhead(t *testing.T) {
	const head = "void*v;int***p;"
	for _, sign := range strings.Fields("* / % + - << >> < <= > >= == != & ^ | && || = *= -= <<=") {
		refusesAt(t, inMain(head, "`x"+sign+"y;"), api.ErrName)
		refusesAt(t, inMain(head, "put(1)"+sign+"`y;"), api.ErrName)
		refusesAt(t, inMain(head, "`x"+sign+"put(1);"), api.ErrName)
		refusesAt(t, inMain(head, "(`&p)"+sign+"x;"), api.ErrLimit)
		refusesAt(t, inMain(head, "1"+sign+"(`&p);"), api.ErrLimit)
	}
	for _, s := range []string{"-%", "~%", "!%", "*%", "&%", "++%", "--%", "(void)%", "(int)%", "%++", "%--", "1[%]", "%[x]", "put(%,x)", "put(1,%)", "f(%)", "%?x:y", "put(1)?%:x", "put(1)?1:%", "put(put(%))"} {
		refusesAt(t, inMain(head, strings.Replace(s, "%", "(`&p)", 1)+";"), api.ErrLimit)
		refusesAt(t, inMain(head, strings.Replace(s, "%", "(`&1)", 1)+";"), api.ErrPlace)
		refusesAt(t, inMain(head, strings.Replace(s, "%", "(v`+1)", 1)+";"), api.ErrType)
	}
}

// TestUnset is of R4: beside a fault there is no unit, and without one no fault.
func TestUnset(t *testing.T) {
	u, f := check.Check(parsed(t, "int x;int main(){y;}"))
	if f.Err != int(api.ErrName) || u.Globals != nil || u.Funcs != nil {
		t.Errorf("%+v, %+v", u, f)
	}
	if u, f = check.Check(parsed(t, "int x;int main(){x;}")); f != (api.Fault{}) || len(u.Globals) != 1 || len(u.Funcs) != 1 {
		t.Errorf("%+v, %+v", u, f)
	}
}
