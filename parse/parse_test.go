package parse_test

import (
	"strings"
	"testing"

	"gantlet/api"
)

// itemCases tells texts, and what comes of them.
func itemCases() [][2]string {
	return [][2]string{
		{"", "|"},
		{" \n", "|"},
		{"int main(){return 1;}", "| main:I32@4(){Return@11[#1@18]}"},
		{"char a;unsigned char b;short c;unsigned short d;", "a:I8@5 b:U8@21 c:I16@29 d:U16@46 |"},
		{"int e;unsigned int f;long g;unsigned long h;void i;", "e:I32@4 f:U32@19 g:I64@26 h:U64@42 i@49 |"},
		{"int*a;int**b;int***c;void*d;", "a:I32*@4 b:I32**@11 c:I32***@19 d:void*@26 |"},
		{"int x=5;int y=-5;long z=-0;", "x:I32@4=5 y:I32@12=-5 z:I64@22=0 |"},
		{"int a[3];int b[2]={7};int c[2]={-1,2};", "a:I32[3]@4 b:I32[2]@13=7 c:I32[2]@26=-1 2 |"},
		{"unsigned char*p[4];", "p:U8*[4]@14 |"},
		{"long m=9223372036854775807;long l=-9223372036854775807;", "m:I64@5=9223372036854775807 l:I64@32=-9223372036854775807 |"},
		{"void f(){}", "| f@5(){}"},
		{"void f(void){}", "| f@5(){}"},
		{"char**f(int a,unsigned long*b){}", "| f:I8**@6(a:I32@12 b:U64*@28){}"},
		{"int f(void v,void*p){}", "| f:I32@4(v@11 p:void*@18){}"},
		{"int a;int f(){}int b=1;int g(){}", "a:I32@4 b:I32@19=1 | f:I32@10(){} g:I32@27(){}"},
		{"int f;int f;int f(){}", "f:I32@4 f:I32@10 | f:I32@16(){}"},
	}
}

// TestItems is of P3.1: globals and functions, in order of the text, with types of each kind.
func TestItems(t *testing.T) {
	for _, c := range itemCases() {
		parses(t, c[0], c[1])
	}
}

// statementCases tells statements, and what comes of them.
func statementCases() [][2]string {
	return [][2]string{
		{"", ""},
		{";", "Empty@0"},
		{"{}", "Block@0"},
		{"{;x;}", "Block@0{Empty@1 Expr@2[x@2]}"},
		{"int x;", "Decl-x:I32@0"},
		{"void*p=q;", "Decl-p:void*@0[q@7]"},
		{"unsigned char b[64];", "Decl-b:U8[64]@0"},
		{"int x=a=b;", "Decl-x:I32@0[Assign@7(a@6 b@8)]"},
		{"x;", "Expr@0[x@0]"},
		{"f();", "Expr@0[Call-f@0]"},
		{"if(a)b;", "If@0[a@3]{Expr@5[b@5]}"},
		{"if(a)b;else c;", "If@0[a@3]{Expr@5[b@5] Expr@12[c@12]}"},
		{"if(a)if(b)c;else d;", "If@0[a@3]{If@5[b@8]{Expr@10[c@10] Expr@17[d@17]}}"},
		{"if(a)if(b)c;else d;else e;", "If@0[a@3]{If@5[b@8]{Expr@10[c@10] Expr@17[d@17]} Expr@24[e@24]}"},
		{"if(a){if(b)c;}else d;", "If@0[a@3]{Block@5{If@6[b@9]{Expr@11[c@11]}} Expr@19[d@19]}"},
		{"if(a)while(b)if(c);else;", "If@0[a@3]{While@5[b@11]{If@13[c@16]{Empty@18 Empty@23}}}"},
		{"if(a);else if(b);else;", "If@0[a@3]{Empty@5 If@11[b@14]{Empty@16 Empty@21}}"},
		{"while(a)b;", "While@0[a@6]{Expr@8[b@8]}"},
		{"do a;while(b);", "Do@0[b@11]{Expr@3[a@3]}"},
		{"do;while(b);c;", "Do@0[b@9]{Empty@2} Expr@12[c@12]"},
		{"for(a;b;c)d;", "For@0[a@4 b@6 c@8]{Expr@10[d@10]}"},
		{"for(;;);", "For@0[None@0 None@0 None@0]{Empty@7}"},
		{"for(a;;);", "For@0[a@4 None@0 None@0]{Empty@8}"},
		{"for(;b;);", "For@0[None@0 b@5 None@0]{Empty@8}"},
		{"for(;;c);", "For@0[None@0 None@0 c@6]{Empty@8}"},
		{"switch(a){case 1:case-2:b;default:;}", "Switch@0[a@7]{Block@9{Case1@10 Case-2@17 Expr@24[b@24] Default@26 Empty@34}}"},
		{"switch(a)case 0:b;", "Switch@0[a@7]{Case0@9} Expr@16[b@16]"},
		{"case-0:", "Case0@0"},
		{"case 9223372036854775807:", "Case9223372036854775807@0"},
		{"break;continue;", "Break@0 Continue@6"},
		{"return;return a;", "Return@0 Return@7[a@14]"},
		{"return(a);", "Return@0[a@7]"},
		{"goto x;x:y:;", "Goto-x@0 Label-x@7 Label-y@9 Empty@11"},
		{"if(a)x:else b;", "If@0[a@3]{Label-x@5 Expr@12[b@12]}"},
		{"if(a)x:b;", "If@0[a@3]{Label-x@5} Expr@7[b@7]"},
		{"x?y:z;", "Expr@0[Cond@1(x@0 y@2 z@4)]"},
		{"sizeof(int);", "Expr@0[Size:I32@0]"},
		{"(a)=b;", "Expr@0[Assign@3(a@1 b@4)]"},
		{"*p=1;", "Expr@0[Assign@2(Deref@0(p@1) #1@3)]"},
	}
}

// TestStatements is of P3.1: each kind of statement.
func TestStatements(t *testing.T) {
	for _, c := range statementCases() {
		if got := statements(t, c[0]); got != c[1] {
			t.Errorf("%q:\n%s; should be\n%s", c[0], got, c[1])
		}
	}
}

// expressionCases tells expressions, and what comes of them.
func expressionCases() [][2]string {
	return [][2]string{
		{"a", "a@0"},
		{"0", "#0@0"},
		{"007", "#7@0"},
		{"9223372036854775807", "#9223372036854775807@0"},
		{"(a)", "a@1"},
		{"((a))", "a@2"},
		{"f()", "Call-f@0"},
		{"f(a)", "Call-f@0(a@2)"},
		{"f(a=1,(b),c?d:e,g())", "Call-f@0(Assign@3(a@2 #1@4) b@7 Cond@11(c@10 d@12 e@14) Call-g@16)"},
		{"a[b]", "Index@1(a@0 b@2)"},
		{"a[b][c]", "Index@4(Index@1(a@0 b@2) c@5)"},
		{"a[b[c]]", "Index@1(a@0 Index@3(b@2 c@4))"},
		{"1[a]", "Index@1(#1@0 a@2)"},
		{"f()[1]", "Index@3(Call-f@0 #1@4)"},
		{"(a+b)[c]", "Index@5(Add@2(a@1 b@3) c@6)"},
		{"a++", "PostInc@1(a@0)"},
		{"a--++", "PostInc@3(PostDec@1(a@0))"},
		{"a[b]++", "PostInc@4(Index@1(a@0 b@2))"},
		{"++a", "PreInc@0(a@2)"},
		{"- --a", "Minus@0(PreDec@2(a@4))"},
		{"-a[b]", "Minus@0(Index@2(a@1 b@3))"},
		{"(-a)[b]", "Index@4(Minus@1(a@2) b@5)"},
		{"*p++", "Deref@0(PostInc@2(p@1))"},
		{"(*p)++", "PostInc@4(Deref@1(p@2))"},
		{"~!-*& &a", "Comp@0(Not@1(Minus@2(Deref@3(Addr@4(Addr@6(a@7))))))"},
		{"(int)a", "Cast:I32@0(a@5)"},
		{"(void)a", "Cast@0(a@6)"},
		{"(unsigned short**)a", "Cast:U16**@0(a@18)"},
		{"(long)-(char)a", "Cast:I64@0(Minus@6(Cast:I8@7(a@13)))"},
		{"(int)a[b]", "Cast:I32@0(Index@6(a@5 b@7))"},
		{"((int)a)[b]", "Index@8(Cast:I32@1(a@6) b@9)"},
		{"(int)a+b", "Add@6(Cast:I32@0(a@5) b@7)"},
		{"sizeof(void*)", "Size:void*@0"},
		{"-sizeof(unsigned long)*2", "Mul@22(Minus@0(Size:U64@1) #2@23)"},
		{"(sizeof(int))[a]", "Index@13(Size:I32@1 a@14)"},
		{"(int)sizeof(void)", "Cast:I32@0(Size@5)"},
		{"a=b", "Assign@1(a@0 b@2)"},
		{"a=b=c", "Assign@1(a@0 Assign@3(b@2 c@4))"},
		{"(a=b)=c", "Assign@5(Assign@2(a@1 b@3) c@6)"},
		{"a+b=c", "Assign@3(Add@1(a@0 b@2) c@4)"},
		{"a?b:c=d", "Assign@5(Cond@1(a@0 b@2 c@4) d@6)"},
		{"a?b=c:d", "Cond@1(a@0 Assign@3(b@2 c@4) d@6)"},
		{"a?b:(c=d)", "Cond@1(a@0 b@2 Assign@6(c@5 d@7))"},
		{"a?b:c?d:e", "Cond@1(a@0 b@2 Cond@5(c@4 d@6 e@8))"},
		{"a?b?c:d:e", "Cond@1(a@0 Cond@3(b@2 c@4 d@6) e@8)"},
		{"(a?b:c)?d:e", "Cond@7(Cond@2(a@1 b@3 c@5) d@8 e@10)"},
		{"a=b?c:d", "Assign@1(a@0 Cond@3(b@2 c@4 d@6))"},
		{"a||b?c:d", "Cond@4(Lor@1(a@0 b@3) c@5 d@7)"},
		{"a-b-c", "Sub@3(Sub@1(a@0 b@2) c@4)"},
		{"a-(b-c)", "Sub@1(a@0 Sub@4(b@3 c@5))"},
		{"a&&b||c&&d", "Lor@4(Land@1(a@0 b@3) Land@7(c@6 d@9))"},
		{"-a*-b", "Mul@2(Minus@0(a@1) Minus@3(b@4))"},
		{"a- -b", "Sub@1(a@0 Minus@3(b@4))"},
		{"a---b", "Sub@3(PostDec@1(a@0) b@4)"},
		{"a*b[c]", "Mul@1(a@0 Index@3(b@2 c@4))"},
		{"a&&&b", "Land@1(a@0 Addr@3(b@4))"},
	}
}

// TestExpressions is of P3.1: each kind of expression, and where it stands.
func TestExpressions(t *testing.T) {
	for _, c := range expressionCases() {
		if got := expression(t, c[0]); got != c[1] {
			t.Errorf("%q:\n%s; should be\n%s", c[0], got, c[1])
		}
	}
}

// binary is a sign between two, its op, and its level, from the loosest on.
type binary struct {
	sign, op string
	level    int
}

func binaries() []binary {
	return []binary{
		{"||", "Lor", 1}, {"&&", "Land", 2}, {"|", "Or", 3}, {"^", "Xor", 4}, {"&", "And", 5}, {"==", "Eq", 6}, {"!=", "Ne", 6},
		{"<", "Lt", 7}, {">", "Gt", 7}, {"<=", "Le", 7}, {">=", "Ge", 7}, {"<<", "Shl", 8}, {">>", "Shr", 8}, {"+", "Add", 9}, {"-", "Sub", 9},
		{"*", "Mul", 10}, {"/", "Div", 10}, {"%", "Mod", 10},
	}
}

// TestBinaries is of P3.1: each two ops side by side, with and without brackets.
func TestBinaries(t *testing.T) {
	for _, x := range binaries() {
		n := len(x.sign)
		for _, y := range binaries() {
			m := len(y.sign)
			left := y.op + at(n+2) + "(" + x.op + "@1(a@0 b" + at(n+1) + ") c" + at(n+m+2) + ")"
			right := x.op + "@1(a@0 " + y.op + at(n+2) + "(b" + at(n+1) + " c" + at(n+m+2) + "))"
			want := left
			if y.level > x.level {
				want = right
			}
			if got := expression(t, "a"+x.sign+"b"+y.sign+"c"); got != want {
				t.Errorf("a%sb%sc: %s; should be %s", x.sign, y.sign, got, want)
			}
			left = y.op + at(n+4) + "(" + x.op + "@2(a@1 b" + at(n+2) + ") c" + at(n+m+4) + ")"
			if got := expression(t, "(a"+x.sign+"b)"+y.sign+"c"); got != left {
				t.Errorf("(a%sb)%sc: %s; should be %s", x.sign, y.sign, got, left)
			}
			right = x.op + "@1(a@0 " + y.op + at(n+3) + "(b" + at(n+2) + " c" + at(n+m+3) + "))"
			if got := expression(t, "a"+x.sign+"(b"+y.sign+"c)"); got != right {
				t.Errorf("a%s(b%sc): %s; should be %s", x.sign, y.sign, got, right)
			}
		}
	}
}

// TestAssigns is of P3.1: = and each op=, from the right, looser than what stands ahead of it.
func TestAssigns(t *testing.T) {
	for _, c := range [][2]string{
		{"=", "Assign"}, {"*=", "Assign-Mul"}, {"/=", "Assign-Div"}, {"%=", "Assign-Mod"}, {"+=", "Assign-Add"}, {"-=", "Assign-Sub"},
		{"<<=", "Assign-Shl"}, {">>=", "Assign-Shr"}, {"&=", "Assign-And"}, {"^=", "Assign-Xor"}, {"|=", "Assign-Or"},
	} {
		sign, op := c[0], c[1]
		n := len(sign)
		want := op + "@1(a@0 " + op + at(n+2) + "(b" + at(n+1) + " c" + at(2*n+2) + "))"
		if got := expression(t, "a"+sign+"b"+sign+"c"); got != want {
			t.Errorf("%s: %s; should be %s", sign, got, want)
		}
		want = op + "@4(Lor@1(a@0 b@3) Lor" + at(n+5) + "(c" + at(n+4) + " d" + at(n+7) + "))"
		if got := expression(t, "a||b"+sign+"c||d"); got != want {
			t.Errorf("%s: %s; should be %s", sign, got, want)
		}
	}
}

// TestWholeProgram is of P3.1: many things in one text, with blanks of each sort.
func TestWholeProgram(t *testing.T) {
	const s = "int n = 3;\r\n\tchar s [ 2 ] = { 1 , - 2 } ;\n" +
		"int add ( int a , int b ) { return a + b ; }\n" +
		"int main ( void ) {\n\tint i ;\n\tfor ( i = 0 ; i < n ; i ++ )\n\t\tput ( add ( i , s [ 1 ] ) ) ;\n}\n"
	parses(t, s, "n:I32@4=3 s:I8[2]@18=1 -2 | "+
		"add:I32@46(a:I32@56 b:I32@64){Return@70[Add@79(a@77 b@81)]} "+
		"main:I32@91(){Decl-i:I32@108 For@117[Assign@125(i@123 #0@127) Lt@133(i@131 n@135) PostInc@141(i@139)]{Expr@148[Call-put@148(Call-add@154(i@160 Index@166(s@164 #1@168)))]}}")
}

// TestTokensAnywhere is of P3.1: faults of the tokens are told, ahead of all else.
func TestTokensAnywhere(t *testing.T) {
	refuses(t, "@", api.ErrToken, 0)
	refuses(t, "int main(){return 1;}@", api.ErrToken, 21)
	refuses(t, "int main(){return 1x;}", api.ErrToken, 18)
	refuses(t, "int main(){return 9223372036854775808;}", api.ErrRange, 18)
	refuses(t, ") int int ( \" ", api.ErrToken, 12)
	refuses(t, "int a[0]; 99999999999999999999", api.ErrRange, 10)
	refuses(t, "int x;"+strings.Repeat(" ", api.MaxText-6)+";", api.ErrLimit, 0)
	refuses(t, ")"+strings.Repeat(" ", api.MaxText), api.ErrLimit, 0)
	parses(t, "int x;"+strings.Repeat(" ", api.MaxText-6), "x:I32@4 |")
}

// TestWrong is of P3.1: the token that may not stand there, marked by a `.
func TestWrong(t *testing.T) {
	for _, s := range []string{
		"`;", "`x;", "`5", "`{}", "`(", "`*x;", "`else", "`if", "`f(){}", "`return 1;", "`sizeof(int);",
		"int x;`;", "int f(){}`;", "int f(){}`}", "int x;`x;",
		"int `", "int `;", "int `5;", "int `int x;", "int `(x);", "int `[2];", "int*`;", "int*`(x);",
		"unsigned `", "unsigned `x;", "unsigned `*x;", "unsigned `void x;", "unsigned `unsigned int x;", "unsigned int `int x;",
		"int `unsigned x;", "long `long x;", "short `int x;", "`signed x;", "void `void x;",
		"int x`", "int x`y;", "int x`,y;", "int x`:", "int x`]", "int x`)", "int x`{", "int x`+=1;", "int x`5;",
		"int x[`", "int x[`];", "int x[`-1];", "int x[`y];", "int x[`(2)];", "int x[5`", "int x[5`;", "int x[5`[", "int x[2`*2];",
		"int x[2]`", "int x[2]`x;", "int x[2]`[2];", "int x[2]`(){}",
		"int x=`", "int x=`;", "int x=`y;", "int x=`{1};", "int x=`(1);", "int x=`--1;", "int x=`+1;", "int x=-`", "int x=-`;", "int x=-`y;", "int x=-`-1;",
		"int x=1`", "int x=1`+1;", "int x=1`,y;", "int x=1`=1;",
		"int x[2]=`", "int x[2]=`;", "int x[2]=`1;", "int x[2]={`", "int x[2]={`};", "int x[2]={`,1};", "int x[2]={`{1}};", "int x[2]={-`};",
		"int x[2]={1`", "int x[2]={1`;", "int x[2]={1`+", "int x[2]={1 `2};", "int x[2]={1,`};", "int x[2]={1,`", "int x[2]={1}`", "int x[2]={1}`,",
		"int x[2]={1,2,`};", "int x[2]={1,2,`y};", "int x[2]={1,2,`", "int x[2]={1,2`",
		"int f(`", "int f(`a){}", "int f(`5){}", "int f(`(int a)){}", "int f(`,int a){}", "int f(`;", "int f(int`){}", "int f(int a`", "int f(int a`;", "int f(int a`int b){}",
		"int f(int a`[2]){}", "int f(int a`=1){}", "int f(int a,`", "int f(int a,`){}", "int f(int a,`b){}",
		"int f(void`", "int f(void`,int a){}", "int f(int a,void`){}", "int f(void*`){}", "int f(void`;", "int f(unsigned`){}",
		"int f()`", "int f()`;", "int f()`int a;{}", "int f()`=1;", "int f(void)`;", "int f(){`", "int f(){;`",
	} {
		refusesAt(t, s, api.ErrSyn)
	}
}

// TestWrongStatements is of P3.1: the same, within a function.
func TestWrongStatements(t *testing.T) {
	for _, s := range []string{
		"`", "`)", "`]", "`:", "`,", "`=1;", "`else;", "`?", "{`", "{;`", "{}}`}", "a`", "a`}", "a`{", "a`b;", "a`,b;", "5`:", "(x)`:;", "a+b`:",
		"int`", "int`;", "int`:", "int`5;", "int*`=1;", "int x`", "int x`,y;", "int x`:", "int x`(){}", "int x`+=1;", "unsigned`x;",
		"int x=`", "int x=`;", "int x=`{1};", "int x=1`", "int x=1`,y;", "int x=a`int y;", "int x[`n];", "int x[`];", "int x[2`", "int x[2`;", "int x[2]`", "int x[2]`=1;", "int x[2]`={1};", "int x[2]`[2];",
		"if`", "if`a", "if(`", "if(`)", "if(`int x", "if(a`", "if(a`;", "if(a)`", "if(a)`}", "if(a)`else;", "if(a)b`else;", "if(a);else`", "if(a);else`}", "if(a);else;`else;", "if(a){}else`)",
		"while`", "while`;", "while(`)", "while(a`", "while(a`,b", "while(a)`", "while(a)`}", "while(a)`else",
		"do`", "do`}", "do;`", "do;`;", "do;`}", "do;`until(a);", "do;while`", "do;while`a", "do;while(`)", "do;while(a`", "do;while(a`;", "do;while(a)`", "do;while(a)`}", "do a`while(b);", "do;`{}",
		"for`", "for`;", "for(`", "for(`)", "for(`,", "for(`int i;;);", "for(a`", "for(a`)", "for(;`", "for(;`)", "for(;a`)", "for(;;`", "for(;;`;", "for(;;`}", "for(;;a`", "for(;;a`,b);", "for(;;a`;", "for(;;)`", "for(;;)`}",
		"switch`", "switch`a", "switch(`)", "switch(a`", "switch(a`{", "switch(a)`", "switch(a)`}",
		"case`", "case`:", "case`x:", "case`--1:", "case`(1):", "case-`", "case-`:", "case-`-1:", "case 1`", "case 1`;", "case 1`+1:", "default`", "default`;", "default`1:",
		"break`", "break`}", "break`1;", "continue`", "continue`:", "continue`x;",
		"return`", "return`}", "return`)", "return`int;", "return`return;", "return`=", "return a`", "return a`b;", "return a`}",
		"goto`", "goto`;", "goto`5;", "goto`if;", "goto`(x);", "goto x`", "goto x`:", "goto x`}", "x:`", "x:y:`", "case 1:`", "default:`",
	} {
		refusesAt(t, ahead+s, api.ErrSyn)
	}
}

// TestWrongExpressions is of P3.1: the same, within an expression.
func TestWrongExpressions(t *testing.T) {
	for _, s := range []string{
		"`+a;", "`%a;", "`&&a;", "`||a;", "`==a;", "`[a];", "`?a:b;", "a`!b;", "a`~b;", "a`sizeof(int);", "a`5;",
		"(`", "(`);", "(a`", "(a`;", "(a`];", "(a)`(b);", "(a)`b;", "(a`,b);", "(`=a);",
		"a[`", "a[`];", "a[b`", "a[b`);", "a[b`,c];", "a[b]`(c);", "a[b]`c;", "a++`b;", "a++`(b);",
		"f(`", "f(`,a);", "f(a`", "f(a`;", "f(a`]", "f(a,`", "f(a,`);", "f(a,`,b);", "f(a)`(b);", "f(a)`b;", "f(`int);", "f(`void);", "5`(a);",
		"a+`", "a+`;", "a+`)", "a+`*=b;", "a+`/b;", "a*`%b;", "a<<`", "a||`;", "a&&`|b;", "a==`=b;", "a<`=", "a!=`;",
		"a=`", "a=`;", "a=`=b;", "a+=`;", "a=b`:", "a?`", "a?`:b;", "a?b`", "a?b`;", "a?b`);", "a?b:`", "a?b:`;", "a?b:c`:d;", "a?b:c?d`;",
		"-`", "-`;", "-`)", "~`=", "!`;", "*`int;", "& `;", "++`", "++`;", "--`]", "-`/a;",
		"(int`", "(int`;", "(int`x);", "(int`[2])a;", "(int`,", "(int)`", "(int)`;", "(int)`)", "(int*`+", "(unsigned`)a;", "(int)a`b;", "(int)(`)a;", "(int)`[a];",
		"sizeof`", "sizeof`a;", "sizeof`int;", "sizeof(`", "sizeof(`a);", "sizeof(`);", "sizeof(`5);", "sizeof(int`", "sizeof(int`[2]);", "sizeof(int`a);", "sizeof(int)`a;", "sizeof(int)`[a];", "sizeof(int)`++;", "sizeof(int)`(a);", "sizeof`-a;",
	} {
		refusesAt(t, ahead+s, api.ErrSyn)
	}
}
