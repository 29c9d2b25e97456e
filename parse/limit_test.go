package parse_test

import (
	"strconv"
	"strings"
	"testing"

	"gantlet/api"
)

// TestStars is of P3.1: three stars, and the fourth, wherever a type stands.
func TestStars(t *testing.T) {
	for _, s := range []string{
		"int %s x;", "void %s x=0;", "unsigned long %s f(){}", "int f(int a,char %s b){}", "int f(void %s p){}",
		"int f(){int %s x;}", "int f(){return(short %s)a;}", "int f(){x=sizeof(int %s);}",
	} {
		taken(t, strings.Replace(s, "%s", "", 1))
		taken(t, strings.Replace(s, "%s", "***", 1))
		refusesAt(t, strings.Replace(s, "%s", "***`*", 1), api.ErrLimit)
		refusesAt(t, strings.Replace(s, "%s", "***`***", 1), api.ErrLimit)
		refusesAt(t, s[:strings.Index(s, "%s")]+"***`*", api.ErrLimit)
		refusesAt(t, s[:strings.Index(s, "%s")]+"***`*)", api.ErrLimit)
		refusesAt(t, strings.Replace(s, "%s", "***`*=", 1), api.ErrSyn)
	}
}

// TestLengths is of P3.1: elements from 1 to MaxLen, and all others.
func TestLengths(t *testing.T) {
	for _, s := range []string{"int x[%s];", "char*x[%s]={1};", "int f(){int x[%s];}"} {
		for _, n := range []string{"1", "2", "63", strconv.Itoa(api.MaxLen), "0064"} {
			taken(t, strings.Replace(s, "%s", n, 1))
		}
		for _, n := range []string{"0", "00", strconv.Itoa(api.MaxLen + 1), "128", "4294967297", "9223372036854775807"} {
			refusesAt(t, strings.Replace(s, "%s", "`"+n, 1), api.ErrRange)
			refusesAt(t, s[:strings.Index(s, "%s")]+"`"+n+";", api.ErrRange)
			refusesAt(t, s[:strings.Index(s, "%s")]+"`"+n, api.ErrRange)
		}
	}
	parses(t, "int x[64];", "x:I32[64]@4 |")
	taken(t, "int f(){x[0]=y[65];}")
}

// TestValues is of P3.1: as many as an array has elements, and one more.
func TestValues(t *testing.T) {
	most := strings.Repeat("7,", api.MaxLen-1) + "7"
	parses(t, "int x[64]={"+most+"};", "x:I32[64]@4="+strings.ReplaceAll(most, ",", " ")+" |")
	refusesAt(t, "int x[64]={"+most+",`7};", api.ErrRange)
	parses(t, "int x[1]={-3};", "x:I32[1]@4=-3 |")
	for _, s := range []string{"int x[1]={3,`4};", "int x[1]={3,`-4};", "int x[2]={3,4,`5,6};", "int x[2]={3,4,`5", "int x[2]={3,4,`5;", "int x[1]={1,`-"} {
		refusesAt(t, s, api.ErrRange)
	}
	for _, s := range []string{"int x[1]={3,`};", "int x[1]={3,`y};", "int x[1]={3,`,", "int x[1]={3,`--4};", "int x[1]={3`;"} {
		refusesAt(t, s, api.ErrSyn)
	}
}

// commas tells s so often, with commas between.
func commas(s string, n int) string {
	return strings.TrimSuffix(strings.Repeat(s+",", n), ",")
}

// anything is what may stand where nothing may begin any more: a thing that would, and others.
func anything() []string {
	return []string{"x", "int x", "5", "(x)", "-x", "sizeof(int)", ")", "(", "]", "}", "{", ";", ",", ":", "?", "=", "+", "else", "if", "while(x);", "return;", ""}
}

// TestParams is of P3.1: MaxParams parameters, and where one more should begin.
func TestParams(t *testing.T) {
	parses(t, "int f(int a,int b,int c,int d){}", "| f:I32@4(a:I32@10 b:I32@16 c:I32@22 d:I32@28){}")
	for _, s := range anything() {
		refusesAt(t, "int f("+commas("int a", api.MaxParams)+",`"+s, api.ErrLimit)
		refusesAt(t, "int f("+commas("int a", api.MaxParams)+",`"+s+"){}", api.ErrLimit)
	}
	refusesAt(t, "int f("+commas("int a", api.MaxParams)+"`;", api.ErrSyn)
	refusesAt(t, "int f(int a,int b,`", api.ErrSyn)
}

// TestArguments is of P3.1: MaxParams arguments, and where one more should begin.
func TestArguments(t *testing.T) {
	if got := expression(t, "f(a,b,c,d)"); got != "Call-f@0(a@2 b@4 c@6 d@8)" {
		t.Error(got)
	}
	if got := expression(t, "f(g(a,b,c,d),b,c,d)"); got != "Call-f@0(Call-g@2(a@4 b@6 c@8 d@10) b@13 c@15 d@17)" {
		t.Error(got)
	}
	for _, s := range anything() {
		refusesAt(t, ahead+"f("+commas("a", api.MaxParams)+",`"+s, api.ErrLimit)
		refusesAt(t, ahead+"f(g("+commas("a", api.MaxParams)+",`"+s+"));}", api.ErrLimit)
	}
	refusesAt(t, ahead+"f("+commas("a", api.MaxParams)+"`;", api.ErrSyn)
	refusesAt(t, ahead+"f(a,b,c,`", api.ErrSyn)
}

// TestFuncs is of P3.1: MaxFuncs functions, and the name of one more.
func TestFuncs(t *testing.T) {
	most := strings.Repeat("int f(){}", api.MaxFuncs)
	if u := taken(t, most+"int x;"); len(u.Funcs) != api.MaxFuncs || len(u.Globals) != 1 {
		t.Error(showUnit(u))
	}
	for _, s := range []string{"(", "(){}", "(5", "()"} {
		refusesAt(t, most+"int `f"+s, api.ErrLimit)
		refusesAt(t, "int x;"+most+"void***`f"+s, api.ErrLimit)
	}
	refusesAt(t, most+"int f`)", api.ErrSyn)
	refusesAt(t, most+"int f`", api.ErrSyn)
	refusesAt(t, most+"int `(){}", api.ErrSyn)
	refusesAt(t, most+"int***`*f(){}", api.ErrLimit)
}

// TestGlobals is of P3.1: MaxGlobals globals, and the name of one more, whatever stands behind it.
func TestGlobals(t *testing.T) {
	most := strings.Repeat("int x;", api.MaxGlobals)
	if u := taken(t, most+"int f(){int x;}"); len(u.Globals) != api.MaxGlobals || len(u.Funcs) != 1 {
		t.Error(showUnit(u))
	}
	for _, s := range []string{";", "=1;", "=", "[0];", "[", ")", "x", "5", "{}", "", ",y;", "*", "int"} {
		refusesAt(t, most+"int `x "+s, api.ErrLimit)
		refusesAt(t, "int f(){}"+most+"int*`x "+s, api.ErrLimit)
	}
	refusesAt(t, most+"int `;", api.ErrSyn)
	refusesAt(t, most+"int `", api.ErrSyn)
	refusesAt(t, most+"`x;", api.ErrSyn)
	refusesAt(t, most+"int x(`;", api.ErrSyn)
}

// TestBothFull is of P3.1: of neither sort may one more stand.
func TestBothFull(t *testing.T) {
	full := strings.Repeat("int f(){}", api.MaxFuncs) + strings.Repeat("int x;", api.MaxGlobals)
	taken(t, full)
	refusesAt(t, full+"int `x;", api.ErrLimit)
	refusesAt(t, full+"int `x(){}", api.ErrLimit)
	refusesAt(t, full+"int `x", api.ErrLimit)
	refusesAt(t, full+"int`", api.ErrSyn)
}

// way is a way in which something stands deeper: so many levels, between two texts.
type way struct {
	ahead, behind string
	levels        int
}

// statementWays are those by which a statement stands deeper than another one.
func statementWays() []way {
	return []way{
		{"{", "}", 1}, {"if(a)", "", 1}, {"if(a);else ", "", 1}, {"while(a)", "", 1}, {"do ", "while(a);", 1}, {"for(;;)", "", 1}, {"for(a;b;c)", "", 1}, {"switch(a)", "", 1},
		{"{;", ";}", 1}, {"{x:case 1:", "}", 1}, {"if(a){", "}else b;", 2}, {"if(a)b;else{", "}", 2}, {"do{", "}while(a);", 2}, {"while(a)if(b)", "", 2}, {"if(a)if(b)", "else;else;", 2},
	}
}

// expressionWays are those by which an expression stands deeper than another one, or a unary.
func expressionWays() []way {
	return []way{
		{"(", ")", 1}, {"f(", ")", 1}, {"f(a,", ",b)", 1}, {"f(a,b,c,", ")", 1}, {"a[", "]", 1}, {"a[b][", "]", 1}, {"- ", "", 1}, {"~", "", 1}, {"!", "", 1}, {"*", "", 1}, {"& ", "", 1},
		{"++ ", "", 1}, {"-- ", "", 1}, {"(int)", "", 1}, {"(void*)", "", 1}, {"b=", "", 1}, {"b+=", "", 1}, {"b>>=", "", 1}, {"a?", ":b", 1}, {"a?b:", "", 1},
		{"a+b*(", ")", 1}, {"f()+a[", "]", 1}, {"-(", ")", 2}, {"(-", ")", 2}, {"-f(", ")", 2}, {"-a[", "]", 2}, {"(int)(", ")", 2}, {"a?b:c?", ":d", 2}, {"a?b:c?d:", "", 2}, {"a=b=", "", 2}, {"a?b=", ":c", 2}, {"!~", "", 2},
	}
}

// nested tells the texts of a way that is gone n times: ahead of the midst, and behind it.
func nested(w way, n int) (string, string) {
	return strings.Repeat(w.ahead, n), strings.Repeat(w.behind, n)
}

// statementAt tells texts ahead and behind, between which a statement stands so deep.
func statementAt(deep int) (string, string) {
	return ahead + strings.Repeat("{", deep-2), strings.Repeat("}", deep-1)
}

// TestDeepStatements is of P3.1: each way to MaxDeep levels, and one more.
func TestDeepStatements(t *testing.T) {
	for _, w := range statementWays() {
		for start := 2; start < 2+w.levels; start++ {
			a, b := statementAt(start)
			times := (api.MaxDeep - start) / w.levels
			more, less := nested(w, times)
			last := start + times*w.levels
			for ; last < api.MaxDeep; last++ {
				more, less = more+"{", "}"+less
			}
			taken(t, a+more+";"+less+b)
			taken(t, a+more+"{}"+less+b)
			taken(t, a+more+"x:"+less+b)
			taken(t, a+more+"return;"+less+b)
			refusesAt(t, a+more+"`x;"+less+b, api.ErrLimit)
			refusesAt(t, a+more+"{`;}"+less+b, api.ErrLimit)
			refusesAt(t, a+more+"do `;while(a);"+less+b, api.ErrLimit)
			refusesAt(t, a+more+"for(;;)`;"+less+b, api.ErrLimit)
			refusesAt(t, a+more+"for(`a;;);"+less+b, api.ErrLimit)
		}
	}
}

// TestDeepExpressions is of P3.1: each way to MaxDeep levels, and one more, in an expression of a statement.
func TestDeepExpressions(t *testing.T) {
	for _, w := range expressionWays() {
		for start := 3; start < 3+w.levels; start++ {
			a, b := statementAt(start - 1)
			times := (api.MaxDeep - start) / w.levels
			more, less := nested(w, times)
			last := start + times*w.levels
			for ; last < api.MaxDeep; last++ {
				more, less = more+"(", ")"+less
			}
			taken(t, a+more+"x"+less+";"+b)
			taken(t, a+more+"x+y*z||v++"+less+";"+b)
			taken(t, a+more+"g()"+less+";"+b)
			taken(t, a+more+"sizeof(int)"+less+";"+b)
			refusesAt(t, a+more+"(`x)"+less+";"+b, api.ErrLimit)
			refusesAt(t, a+more+"!`x"+less+";"+b, api.ErrLimit)
			refusesAt(t, a+more+"(int)`x"+less+";"+b, api.ErrLimit)
			refusesAt(t, a+more+"x[`x]"+less+";"+b, api.ErrLimit)
			refusesAt(t, a+more+"g(`x)"+less+";"+b, api.ErrLimit)
		}
	}
}

// TestDeepEach is of P3.1: of an expression that is as deep as may be, what would stand deeper.
func TestDeepEach(t *testing.T) {
	a, b := statementAt(api.MaxDeep - 1)
	for _, s := range []string{
		"x?`y:z", "x?`", "x?`:", "x=`y", "x=`", "x=`=", "x<<=`y", "-`x", "~`", "!`", "*`)", "& `x", "++`x", "--`;", "-`int",
		"(`x)", "(`", "(`)", "(`;", "(`else", "(int)`x", "(int)`;", "(int)`", "(int)`int", "(unsigned char*)`(x)",
		"f(`x)", "f(`;", "f(`,", "f(`int", "f(`", "x[`y]", "x[`]", "x[`", "x+(`y)", "x*-`y", "x+y[`z]", "f()[`1]", "x?`y",
	} {
		refusesAt(t, a+s, api.ErrLimit)
		refusesAt(t, a+s+";"+b, api.ErrLimit)
	}
}

// TestDeepEnough is of P3.1: of an expression that is as deep as may be, what stands no deeper.
func TestDeepEnough(t *testing.T) {
	a, b := statementAt(api.MaxDeep - 1)
	for _, s := range []string{"x", "5", "x+y", "f()", "x++", "x--++", "sizeof(int)", "x||y&&z|u^v&w==x<y<<z+u*v", "f()+g()"} {
		taken(t, a+s+";"+b)
	}
	for _, s := range []string{"x`y", "x`)", "x`,", "x`:", "x+`", "x+`;", "x+`)", "(int`x", "(int`", "sizeof(`x", "sizeof`", "f()`(", "`)", "`=", "`else", "`int x;", "`"} {
		refusesAt(t, a+"return "+s, api.ErrSyn)
	}
}

// TestDeepParts is of P3.1: what a statement that is as deep as may be has, and what it may not have.
func TestDeepParts(t *testing.T) {
	a, b := statementAt(api.MaxDeep)
	for _, s := range []string{";", "{}", "int x;", "int x[3];", "case 1:", "case-1:", "default:", "break;", "continue;", "return;", "goto x;", "x:", "x:y:;"} {
		taken(t, a+s+b)
	}
	for _, s := range []string{
		"int x=`5;", "int x=`", "int x=`;", "if(`a);", "if(`)", "if(`", "while(`a);", "while(`;", "switch(`a);", "switch(`", "do `;while(a);", "do`}", "do`",
		"for(`a;;);", "for(;`a;);", "for(;;`a);", "for(;;)`;", "for(;;)`}", "for(;;)`", "for(`)", "for(;`)", "for(;;`;", "for(`", "for(;`", "for(;;`",
		"return `x;", "return`}", "return`", "return`)", "return`int", "`x;", "`5;", "`f();", "`(x);", "`-x;", "`sizeof(int);", "`x=1;", "`x", "`x?y:z;", "`x)",
		"{`;", "{`x:", "{`{", "{`int x;", "{`)", "{`else", "{`case 1:", "{`]",
	} {
		refusesAt(t, a+s, api.ErrLimit)
		refusesAt(t, a+s+b, api.ErrLimit)
	}
	for _, s := range []string{"`", "{`", ";`", "{}`", "x:`", "int`;", "int x`y;", "int x[2]`=1;", "case`x:", "goto`5;", "break`x;", "if`x", "for`;"} {
		refusesAt(t, a+s, api.ErrSyn)
	}
}
