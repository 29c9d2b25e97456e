package check_test

import (
	"strconv"
	"strings"
	"testing"

	"gantlet/api"
)

// TestStatements is of P4.1: each kind of statement, with all that it has.
func TestStatements(t *testing.T) {
	for s, want := range map[string]string{
		";":                         "Empty",
		"{}":                        "Block",
		"{;{x;}}":                   "Block{Empty Block{Expr[x#0:int]}}",
		"x;":                        "Expr[x#0:int]",
		"put(x);":                   "Expr[Callput#-1:void(x#0:int)]",
		"int y;":                    "Decl y#1:int",
		"long y=x;":                 "Decl y#1:long[x#0:int]",
		"if(x);":                    "If[x#0:int]{Empty}",
		"if(x)x;else x++;":          "If[x#0:int]{Expr[x#0:int] Expr[PostInc:int(x#0:int)]}",
		"while(x)break;":            "While[x#0:int]{Break}",
		"do continue;while(!x);":    "Do[Not:int(x#0:int)]{Continue}",
		"for(;;)break;":             "For[None:void None:void None:void]{Break}",
		"for(x=1;x<2;--x)continue;": "For[Assign:int(x#0:int Num#1:int) Lt:int(x#0:int Num#2:int) PreDec:int(x#0:int)]{Continue}",
		"for(put(1);;get())x;":      "For[Callput#-1:void(Num#1:int) None:void Callget#-2:long]{Expr[x#0:int]}",
		"switch(x){case 1:case -2:break;default:x;}": "Switch[x#0:int]{Block{Case#1 Case#-2 Break Default Expr[x#0:int]}}",
		"switch(x)case 4294967296:":                  "Switch[x#0:int]{Case#4294967296}",
		"return x;":                                  "Return[x#0:int]",
		"goto a;a:":                                  "Goto a Label a",
		"a:goto a;":                                  "Label a Goto a",
	} {
		fills(t, "int main(){}int f(int x){"+s+"}", " | main:int()<>{} f:int(x:int)<x:int"+declared(want)+">{"+want+"}")
	}
	fills(t, "int main(){}void f(){return;}", " | main:int()<>{} f:void()<>{Return}")
	fills(t, "int main(){}int*f(){return 0;}", " | main:int()<>{} f:int*()<>{Return[Num#0:int]}")
}

// declared tells what Locals have of a local y.
func declared(want string) string {
	if _, typ, ok := strings.Cut(want, "Decl y#1:"); ok {
		return " y:" + strings.Split(typ, "[")[0]
	}
	return ""
}

// TestExpressions is of P4.1: whole expressions, with all that each part has.
func TestExpressions(t *testing.T) {
	for s, want := range map[string]string{
		"a[i]=b[i+1]*c;":                     "Assign:int(Index:int(a#0:int[4] i#2:char) Mul:long(Index:short(b#1:short* Add:int(i#2:char Num#1:int)) c#3:long))",
		"*(a+i)+=sizeof(int*);":              "Assign-Add:int(Deref:int(Add:int*(a#0:int[4] i#2:char)) Size#8:int*)",
		"b=&b[c];":                           "Assign:short*(b#1:short* Addr:short*(Index:short(b#1:short* c#3:long)))",
		"i?a:&a[1];":                         "Cond:int*(i#2:char a#0:int[4] Addr:int*(Index:int(a#0:int[4] Num#1:int)))",
		"b-b+c;":                             "Add:long(Sub:long(b#1:short* b#1:short*) c#3:long)",
		"put(g(a,i));":                       "Callput#-1:void(Callg#1:short(a#0:int[4] i#2:char))",
		"i=c=2147483648;":                    "Assign:char(i#2:char Assign:long(c#3:long Num#2147483648:long))",
		"(unsigned char)(c>>i)&~2147483647;": "And:int(Cast:uchar(Shr:long(c#3:long i#2:char)) Comp:int(Num#2147483647:int))",
		"b==0||!a&&c!=i;":                    "Lor:int(Eq:int(b#1:short* Num#0:int) Land:int(Not:int(a#0:int[4]) Ne:int(c#3:long i#2:char)))",
		"main();":                            "Callmain#0:int",
		"exit(get());":                       "Callexit#-3:void(Callget#-2:long)",
		"h()?put(1):exit(2);":                "Cond:void(Callh#2:void* Callput#-1:void(Num#1:int) Callexit#-3:void(Num#2:int))",
		"&*b++;":                             "Addr:short*(Deref:short(PostInc:short*(b#1:short*)))",
	} {
		u := taken(t, inMain("", "int a[4];short*b;char i;long c;"+s)+"short g(int*x,long y){}void*h(){}")
		if got := (shower{filled: true}).expr(u.Funcs[0].Body[4].Expr[0]); got != want {
			t.Errorf("%q: %s; should be %s", s, got, want)
		}
	}
}

// TestNumbers is of P4.1: numbers below 2^31, and from there on.
func TestNumbers(t *testing.T) {
	for s, want := range map[string]string{"0": "int", "1": "int", "2147483647": "int", "2147483648": "long", "2147483649": "long", "4294967295": "long", "4294967296": "long", "4294967297": "long", "9223372036854775807": "long"} {
		comes(t, "", s, 0, want)
		comes(t, "", "-"+s, 0, want)
	}
}

// TestCalls is of P4.1: functions by their names, wherever they stand, and their arguments.
func TestCalls(t *testing.T) {
	fills(t, "int main(){g(f(1),0);f(h());}int f(int a){f(a);}void*g(long a,char*b){}char h(){int f;f(1);put(f);}",
		" | main:int()<>{Expr[Callg#2:void*(Callf#1:int(Num#1:int) Num#0:int)] Expr[Callf#1:int(Callh#3:char)]} f:int(a:int)<a:int>{Expr[Callf#1:int(a#0:int)]} "+
			"g:void*(a:long b:char*)<a:long b:char*>{} h:char()<f:int>{Decl f#0:int Expr[Callf#1:int(Num#1:int)] Expr[Callput#-1:void(f#0:int)]}")
	for _, s := range []string{"`x();", "int y;`y();", "{int z;`z(1,2);}", "put(`x());", "`v();", "`Put(1);", "`x(f(1));"} {
		refusesAt(t, inMain("int v;int f(int a){}", s), api.ErrName)
	}
	for _, s := range []string{
		"`f();", "`f(1,2);", "`f(1,2,3,4);", "`g(1);", "`put();", "`put(1,2);", "`get(1);", "`exit();", "`exit(1,2);", "`put(p);", "`exit(p);", "`f(p);", "`f(put(1));", "`h(1,1);", "`h(p,p);", "`h(1,q);",
		"1+`f();", "f(`f());", "put(`get(1)+1);", "`main(1);", "`h(1,get());", "`g(p,p,p,p);",
	} {
		refusesAt(t, inMain("int f(int a){}int g(){}int h(int a,int*b){}", "int*p;long*q;"+s), api.ErrType)
	}
	taken(t, inMain("int f(int a){}int g(){}int h(int a,int*b){}", "int*p;f(1);g();h(1,p);h(get(),0);put(sizeof(int));exit(f(g()));put(get());main();"))
}

// TestReturns is of P4.1: what is returned where, and what is not.
func TestReturns(t *testing.T) {
	taken(t, "void f(){return;{return;}}int main(){return 1;}")
	for _, typ := range allTypes() {
		fit(t, typ == "void", spelt(typ)+" f(){`return;}int main(){}")
		fit(t, typ == "void", "int main(){}"+spelt(typ)+" f(){if(1){`return;}}")
		taken(t, spelt(typ)+" f(){}int main(){}")
	}
	for _, s := range []string{"return `1;", "return `0;", "return `put(1);", "return `f();", "if(1)return 1`+1;"} {
		refusesAt(t, "void f(){"+s+"}int main(){}", api.ErrType)
	}
	fit(t, false, "int f(){return `put(1);}int main(){}")
}

// TestPlaces is of P4.1: in what break, continue, case and default may stand, however deep.
func TestPlaces(t *testing.T) {
	outer := []struct {
		ahead, behind     string
		looping, choosing bool
	}{
		{"", "", false, false}, {"while(1)", "", true, false}, {"do", "while(1);", true, false}, {"for(;;)", "", true, false}, {"switch(1)", "", false, true},
		{"while(1)switch(1)", "", true, true}, {"switch(1)while(1)", "", true, true}, {"for(;;)switch(1)", "", true, true}, {"switch(1)for(;;)", "", true, true},
		{"do switch(1)", "while(1);", true, true}, {"switch(1)do", "while(1);", true, true}, {"switch(1)switch(2)", "", false, true}, {"while(1)for(;;)", "", true, false},
	}
	inner := []string{"%", "if(1)%", "if(1);else %", "{{%}}", "x:%", "if(1){;if(2){%}}", "while(1);%", "do;while(1);%", "for(;;);%", "switch(1);%", "while(1){}%", "switch(1){case 1:;}%"}
	for _, o := range outer {
		for s, ok := range map[string]bool{"break;": o.looping || o.choosing, "continue;": o.looping, "case 5:": o.choosing, "default:": o.choosing} {
			for _, i := range inner {
				text := inMain("", o.ahead+"{"+strings.Replace(i, "%", "`"+s, 1)+"}"+o.behind)
				if ok {
					taken(t, strings.Replace(text, "`", " ", 1))
				} else {
					refusesAt(t, text, api.ErrPlace)
				}
			}
			if !ok {
				refusesAt(t, "int main(){while(1)switch(1);}int f(){"+o.ahead+"{`"+s+"}"+o.behind+"}", api.ErrPlace)
			}
		}
	}
	for _, s := range []string{"`break;", "`continue;", "`case 1:", "`default:", "switch(1)`continue;", "if(1)`break;", "while(1)`case 1:", "for(;;)`default:"} {
		refusesAt(t, inMain("", s), api.ErrPlace)
	}
	taken(t, inMain("", "while(1)break;for(;;)continue;switch(1)break;switch(1)case 1:switch(2)default:do break;while(1);"))
}

// TestCases is of P4.1: cases that are there already, as the switch's promoted type has them.
func TestCases(t *testing.T) {
	const word = 1 << 32
	types := map[string]int{"char": 32, "unsigned char": 32, "short": 32, "unsigned short": 32, "int": 32, "unsigned int": 32, "long": 64, "unsigned long": 64}
	for typ, bits := range types {
		for _, c := range [][2]int64{{0, 0}, {1, 1}, {-1, -1}, {5, 6}, {0, word}, {1, word + 1}, {-1, word - 1}, {1, 1 - word}, {-5, 5}, {255, -1}, {256, 0}, {65536, 0}, {65535, -1}, {1 << 31, -1 << 31}, {1<<63 - 1, -1}, {1<<63 - 1, -1<<63 + 1}, {128, -128}} {
			same := c[0] == c[1] || bits == 32 && uint32(c[0]) == uint32(c[1])
			for _, between := range []string{"", "case 77:;", "default:", "break;{", "x:if(1)while(1){"} {
				s := typ + " x;switch(x){case " + strconv.FormatInt(c[0], 10) + ":" + between + "`case " + strconv.FormatInt(c[1], 10) + ":" + strings.Repeat("}", strings.Count(between, "{")) + "}"
				if s = inMain("", s); same {
					refusesAt(t, s, api.ErrName)
				} else {
					taken(t, strings.Replace(s, "`", " ", 1))
				}
			}
		}
	}
	for _, s := range []string{
		"switch(1){default:`default:}", "switch(1){default:case 1:`default:}", "switch(1){case 1:{{`case 1:}}}", "switch(1){default:while(1)`default:}", "switch(1){case 1:switch(1){case 1:}`case 1:}", "switch(1){case 1:switch(1){case 1:`case 1:}}",
		"switch(1){switch(1){default:}default:`default:}", "switch(1){switch(1)default:default:`default:}", "switch(1){case 3:case 4:case 5:`case 4:}", "switch(sizeof(int)){case 1:case 4294967297:`case 1:}", "switch(1){case 1:`case 4294967297:}", "switch(1){case -0:`case 0:}",
	} {
		refusesAt(t, inMain("", s), api.ErrName)
	}
	for _, s := range []string{
		"switch(1){case 1:switch(1){case 1:default:}default:case 2:}", "switch(1){case 1:}switch(1){case 1:}", "switch(1){default:}switch(1){default:}", "switch(1){switch(1){case 1:}switch(2){case 1:}case 1:}",
		"switch(2147483648){case 1:case 4294967297:}", "switch(sizeof(int)){case 1:case 4294967297:case -1:case 9223372036854775807:}",
		// the outer one's type, once the inner one is through
		"int i;long l;switch(l){case 1:switch(i){case 1:}case 4294967297:}", "int i;long l;switch(i){switch(l){case 1:case 4294967297:}case 1:}",
	} {
		taken(t, inMain("", s))
	}
	refusesAt(t, inMain("", "int i;long l;switch(i){case 1:switch(l){case 1:}`case 4294967297:}"), api.ErrName)
	refusesAt(t, inMain("", "int i;long l;switch(l){case 1:switch(i){case 1:`case 4294967297:}}"), api.ErrName)
}

// TestLabels is of P4.1: labels ahead of their jumps and behind them, one in a function each.
func TestLabels(t *testing.T) {
	for _, s := range []string{
		"a:goto a;", "goto a;a:", "{a:}goto a;", "goto a;{{a:;}}", "if(1)goto a;else goto b;a:b:", "a:b:c:goto c;goto a;", "int a;a:goto a;", "while(1)a:goto a;", "main:put:x:goto put;", "switch(1){case 1:a:goto a;}",
	} {
		taken(t, inMain("int x;", s))
	}
	taken(t, "void f(){a:goto a;}int main(){goto a;a:;}")
	for _, s := range []string{
		"a:`a:", "a:{`a:}", "{a:}{`a:}", "a:b:`a:", "while(1){a:;}`a:", "a:goto a;`a:", "goto a;a:if(1)`a:", "a:b:c:`b:",
		"`goto a;", "a:`goto b;", "goto a;`goto b;a:", "{`goto a;}", "int a;`goto a;", "if(1)`goto a;else;b:", "while(1){a:goto a;`goto A;}", "`goto main;", "`goto a;goto b;b:", "`goto a;goto b;",
	} {
		refusesAt(t, inMain("void a1(){}", s), api.ErrName)
	}
	refusesAt(t, "void f(){a:;}int main(){`goto a;}", api.ErrName)
	refusesAt(t, "void f(){`goto a;}int main(){a:goto a;}", api.ErrName)
}
