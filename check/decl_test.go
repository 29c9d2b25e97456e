package check_test

import (
	"strings"
	"testing"

	"gantlet/api"
)

// TestGlobals is of P4.1: globals of all types, with values and without, and their names.
func TestGlobals(t *testing.T) {
	fills(t, "int x;unsigned char a[3]={1,-2};void*p=0;int main(){x;a;p;}long*q[2]={0,-0};",
		"x:int a:uchar[3]=1=-2 p:void*=0 q:long*[2]=0=0 | main:int()<>{Expr[x#-1:int] Expr[a#-2:uchar[3]] Expr[p#-3:void*]}")
	most := ""
	for _, name := range strings.Fields("a b c d e f g h i j k l m n o p") {
		most += "char " + name + ";"
	}
	fills(t, most+"int main(){a;p;}", show(strings.Fields("a b c d e f g h i j k l m n o p"), func(s string) string { return s + ":char" })+
		" | main:int()<>{Expr[a#-1:char] Expr[p#-16:char]}")
	for _, typ := range allTypes() {
		s := spelt(typ)
		fit(t, typ != "void", s+" `x;int main(){}")
		fit(t, typ != "void", s+" `x=0;int main(){}")
		fit(t, typ != "void" && !isPtr(typ), s+" `x=1;int main(){}")
		fit(t, typ != "void" && !isPtr(typ), s+" `x=-9223372036854775807;int main(){}")
		array := typ != "void" && !strings.HasSuffix(typ, "***")
		fit(t, array, s+" `x[1];int main(){}")
		fit(t, array, s+" `x[64]={0,0,0};int main(){}")
		fit(t, array && !isPtr(typ), s+" `x[3]={0,0,5};int main(){}")
		fit(t, array && !isPtr(typ), s+" `x[3]={-1,0,0};int main(){}")
	}
}

// TestGlobalNames is of P4.1: names of globals and functions that are there already, wherever
// they stand in the text: functions come behind all globals.
func TestGlobalNames(t *testing.T) {
	for _, s := range []string{
		"int x;int `x;int main(){}", "int x;char y;long*`x[3];int main(){}", "int x;void f(){}int `x;int main(){}",
		"int `put;int main(){}", "int `get;int main(){}", "int `exit[2];int main(){}", "int a;int `put;",
		"void `put(long a){}int main(){}", "long `get(){}int main(){}", "void `exit(long a){}int main(){}",
		"int x;int `x(){}int main(){}", "int `x(){}int x;int main(){}", "void f(){}void g(){}int `f(int a){}int main(){}",
		"int main(){}int `main(){}", "int main;int `main(){}", "int `main(){}int main;",
	} {
		refusesAt(t, s, api.ErrName)
	}
	taken(t, "int Put;int _get;int exit1;int Main;int x;int X(){}int main(){}")
}

// TestParams is of P4.1: parameters of all types, in Locals as they are, and their names.
func TestParams(t *testing.T) {
	fills(t, "void f(int a,char*b,void**c,unsigned long d){a;b;c;d;}int main(){}",
		" | f:void(a:int b:char* c:void** d:ulong)<a:int b:char* c:void** d:ulong>{Expr[a#0:int] Expr[b#1:char*] Expr[c#2:void**] Expr[d#3:ulong]} main:int()<>{}")
	for _, typ := range allTypes() {
		fit(t, typ != "void", "void f("+spelt(typ)+" `x){}int main(){}")
		fit(t, typ != "void", "void f(int a,"+spelt(typ)+" `x,int b){}int main(){}")
		taken(t, spelt(typ)+" f(){}int main(){}")
	}
	for _, s := range []string{"int f(int a,int `a){}", "int f(int a,long*b,long*`a){}", "int f(int a,int b,int c,int `b){}", "int f(int a,int `a,int a,int a){}"} {
		refusesAt(t, s+"int main(){}", api.ErrName)
	}
	taken(t, "int x;int f(int x,int f,int put,int main){}int g(int x,int f){}int main(){}")
}

// TestMain is of P4.1: a function main, without parameters, that returns TI32.
func TestMain(t *testing.T) {
	for _, s := range []string{"", "int x;", "int main;", "int f(){}", "int Main(){}", "int f(int main){}", "int f(){int main;}", "int main2(){}"} {
		refuses(t, s, api.ErrName, 0)
	}
	for _, typ := range allTypes() {
		fit(t, typ == "int", spelt(typ)+" `main(){}")
		fit(t, false, "int f(){}"+spelt(typ)+" `main(int a){}")
	}
	refusesAt(t, "int `main(int a,int b){}int f(){}", api.ErrType)
	taken(t, "int main(void){}")
	taken(t, "int f(){}int main(){}int g(){}")
}

// TestLocals is of P4.1: locals of all types, in Locals as they are declared, at their statement's Pos.
func TestLocals(t *testing.T) {
	u := taken(t, "int f ( int a ) { char b ; { long * c = 0 ; } { int c [ 5 ] ; } if ( a ) short d ; } int main ( ) { }")
	want := "f:int@4(a:int@12)<a:int@12 b:char@18 c:long*@29 c:int[5]@48 d:short@73>{Decl b#1:char@18 " +
		"Block@27{Decl c#2:long*@29[Num#0:int@40]} Block@46{Decl c#3:int[5]@48} If@64[a#0:int@69]{Decl d#4:short@73}}"
	if got := show(u.Funcs[:1], shower{true, true}.function); got != want {
		t.Errorf("%s; should be %s", got, want)
	}
	for _, typ := range allTypes() {
		s := spelt(typ)
		array := typ != "void" && !strings.HasSuffix(typ, "***")
		for _, b := range [][2]string{{"", ""}, {"{", "}"}, {"if(1)", ""}, {"for(;;){;", "}"}} {
			fit(t, typ != "void", inMain("", b[0]+"`"+s+" x;"+b[1]))
			fit(t, array, inMain("", b[0]+"`"+s+" x[3];"+b[1]))
		}
	}
	refusesAt(t, inMain("", "`void x=put(1);"), api.ErrType)
	refusesAt(t, inMain("", "`void x=1;"), api.ErrType)
}

// TestLocalNames is of P4.1: names that are there already in the same block, and those that are not.
func TestLocalNames(t *testing.T) {
	for _, s := range []string{
		"int f(int a){`int a;}", "int f(int a,int b){int c;`char*b[2];}", "int f(){int a;`int a;}", "int f(){int a;{int a;}`int a;}", "int f(){{int a;`int a;}}",
		"int f(){if(1)int a;`int a;}", "int f(){if(1)int a;else `int a;}", "int f(){int a;while(1)`int a;}", "int f(){switch(1){case 1:int a;case 2:`int a;}}",
		"int f(){int a;for(;;)`int a;}", "int f(int a){do `long a;while(1);}", "int f(int a){if(1)`int a;}", "int f(){int a;x:`int a;}",
		"int f(){{int a;{int a;`int a;}}}", "int f(){{{int b;}int a;{int a;}`int a;}}", "int f(int a){{int a;`int a;}}", "int f(int a){{int b;}`int a;}",
	} {
		refusesAt(t, s+"int main(){}", api.ErrName)
	}
	for _, s := range []string{
		"int f(int a){{int a;}}", "int f(int a){{int a;{int a;{int a;}}}{int a;}}", "int f(){{int a;}int a;}", "int f(){if(1){int a;}else{int a;}int a;}", "int x;int f(){int x;}", "int f(){int f;int put;int get;int main;int exit;}",
		"int f(){while(1){int a;}do{int a;}while(1);for(;;){int a;}switch(1){int a;}}", "int f(){a:;int a;}", "int f(){int a;}int g(int a){}int h(){int a;}",
	} {
		taken(t, s+"int main(){int g;}")
	}
}

// TestNames is of P4.1: of several with a name the one that it means, by its type.
func TestNames(t *testing.T) {
	for s, want := range map[string]string{
		"x;":                        "x#-2:char",
		"int x;x;":                  "x#0:int",
		"{int x;}x;":                "x#-2:char",
		"int x;{long x;}x;":         "x#0:int",
		"int x;{long x;{x;}}x;":     "x#0:int",
		"int y;int x;{long x;}x;":   "x#1:int",
		"if(1)int x;x;":             "x#0:int",
		"for(;;)int x;x;":           "x#0:int",
		"int*put;put;":              "put#0:int*",
		"int main;main;":            "main#0:int",
		"x:x;":                      "x#-2:char",
		"{int a;}{int b;}int c;c;":  "c#2:int",
		"int x;{x;}x;":              "x#0:int",
		"char y;while(0){int y;}y;": "y#0:char",
	} {
		u := taken(t, inMain("int g;char x;", s))
		body := u.Funcs[0].Body
		if got := (shower{filled: true}).expr(body[len(body)-1].Expr[0]); got != want {
			t.Errorf("%q: %s; should be %s", s, got, want)
		}
	}
	fills(t, inMain("int g;char x;", "x;int*x;x;{x;long x;x;{short x;x;}x;}x;"),
		"g:int x:char | main:int()<x:int* x:long x:short>{Expr[x#-2:char] Decl x#0:int* Expr[x#0:int*] Block{Expr[x#0:int*] Decl x#1:long Expr[x#1:long] Block{Decl x#2:short Expr[x#2:short]} Expr[x#1:long]} Expr[x#0:int*]}")
	fills(t, inMain("long x;", "int x=x;{char x=x+1;x;}"),
		"x:long | main:int()<x:int x:char>{Decl x#0:int[x#-1:long] Block{Decl x#1:char[Add:int(x#0:int Num#1:int)] Expr[x#1:char]}}")
	fills(t, "int f(long x){{x;char x;x;}x;}int main(){x;}int x;",
		"x:int | f:int(x:long)<x:long x:char>{Block{Expr[x#0:long] Decl x#1:char Expr[x#1:char]} Expr[x#0:long]} main:int()<>{Expr[x#-1:int]}")
}

// TestNoName is of P4.1: names that are not there, or not there yet, or not there any more.
func TestNoName(t *testing.T) {
	for _, s := range []string{
		"`x;", "`x;int x;", "{`x;}int x;", "{int x;}`x;", "{{int x;}`x;}", "int x=`x;", "int*x=& `x;", "{int x;}{`x;}", "int y;`x;", "x:`x;", "if(`x)int x;", "for(`x;;)int x;", "while(1){int x;}`x;",
		"`put;", "`get;", "`main;", "`f;", "f(`f);", "`fp;", "{int x;}return `x;", "switch(`x){int x;}", "do{int x;}while(`x);", "if(1){int x;}else `x;", "int a[2];a[`x];", "`X;", "`x1;",
	} {
		refusesAt(t, inMain("int f(int fp){}", s), api.ErrName)
	}
}
