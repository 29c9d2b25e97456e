package check_test

import (
	"strconv"
	"strings"
	"testing"

	"gantlet/api"
)

// TestMaxLocals is of P4.1: MaxLocals parameters and locals, and one more, in all blocks of a function.
func TestMaxLocals(t *testing.T) {
	for params := range api.MaxParams + 1 {
		var l []string
		for i := range params {
			l = append(l, "int p"+strconv.Itoa(i))
		}
		head := "int f(" + strings.Join(l, ",") + "){"
		most := ""
		for i := range api.MaxLocals - params {
			s := "int l" + strconv.Itoa(i) + ";"
			if i%3 == 1 {
				s = "{int x[64];}"
			}
			most += s
		}
		taken(t, head+most+"}int main(){int x;}")
		for _, s := range []string{"`int x;", "{`int x;}", ";{;{`char*x[3];}}", "if(1)`int x;", "for(;;)`long x=1;", "`int x;int y;", "{`int x;}int y;"} {
			refusesAt(t, head+most+s+"}int main(){}", api.ErrLimit)
		}
		// what else there is of the one that is too many stands ahead
		refusesAt(t, head+most+"int x=`y;}int main(){}", api.ErrName)
		refusesAt(t, head+most+"int x=`x;}int main(){}", api.ErrName)
		refusesAt(t, head+most+"`int l0;}int main(){}", api.ErrName)
		refusesAt(t, head+most+"`void x;}int main(){}", api.ErrType)
		refusesAt(t, head+most+"int*x=`1;}int main(){}", api.ErrType)
		refusesAt(t, head+most+"`int x;y;}int main(){}", api.ErrLimit)
		refusesAt(t, head+most+"`y;int x;}int main(){}", api.ErrName)
	}
	each := strings.Repeat("{int x;}", api.MaxLocals)
	taken(t, "int f(){"+each+"}int g(){"+each+"}int main(){"+each+"}")
	if l := taken(t, inMain("", each)).Funcs[0].Locals; len(l) != api.MaxLocals {
		t.Errorf("%d", len(l))
	}
}

// counted is a statement, and how many statements and expressions it has.
type counted struct {
	text string
	n    int
}

// TestMaxNodes is of P4.1: MaxNodes statements and expressions, and one more: at the name.
func TestMaxNodes(t *testing.T) {
	for _, c := range []counted{
		{"", 0}, {";", 1}, {"{}", 1}, {"{;;}", 3}, {"1;", 2}, {"a;", 2}, {"(((a)));", 2}, {"int x;", 1}, {"int x[3];", 1}, {"int x=1;", 2}, {"return 1;", 2}, {"L:", 1}, {"L:goto L;", 2}, {"f();", 2},
		{"for(;;);", 2}, {"for(1;;);", 3}, {"for(;1;);", 3}, {"for(;;1);", 3}, {"for(1;1;1);", 5}, {"while(1);", 3}, {"do;while(1);", 3}, {"if(1);", 3}, {"if(1);else;", 4}, {"switch(1);", 3},
		{"switch(1)case 1:", 3}, {"switch(1)default:", 3}, {"while(1)break;", 3}, {"while(1)continue;", 3}, {"a+a;", 4}, {"a=a;", 4}, {"a+=a;", 4}, {"a?a:a;", 5}, {"-a;", 3}, {"(int)a;", 3}, {"sizeof(int);", 2},
		{"p[a];", 4}, {"*p;", 3}, {"&a;", 3}, {"a++;", 3}, {"!--a;", 4}, {"put(1);", 3}, {"g(a,a,a,a);", 6}, {"a&&a||a;", 6}, {"if(a){a;}else{;{a;}}", 10}, {"get();", 2}, {"a*a+a*a-p[*p];", 13},
	} {
		for _, padding := range []counted{{";", 1}, {"a;", 2}, {"a+a;", 4}, {"{;;}", 3}} {
			most := c.text
			n := c.n
			for ; n+padding.n <= api.MaxNodes; n += padding.n {
				most += padding.text
			}
			most += strings.Repeat(";", api.MaxNodes-n)
			const head, tail = "int a;int*p;int g(int a,int b,int c,int d){;}int main(){f();}", "int `f(){"
			taken(t, head+strings.Replace(tail, "`", " ", 1)+most+"}")
			refusesAt(t, head+tail+most+";}", api.ErrLimit)
			refusesAt(t, head+tail+most+"{}}", api.ErrLimit)
			refusesAt(t, head+tail+";"+most+"}", api.ErrLimit)
			refusesAt(t, head+tail+most+"1;}", api.ErrLimit)
		}
	}
	most := strings.Repeat(";", api.MaxNodes)
	taken(t, "int f(){"+most+"}int g(int a){"+most+"}int main(){"+most+"}")
	// behind all else of the function, ahead of all else of those behind it
	refusesAt(t, "int f(){"+most+";}int main(){}int `f(){}", api.ErrName)
	refusesAt(t, "int f(){"+most+"`x;}int main(){}", api.ErrName)
	refusesAt(t, "int f(){"+most+"`goto x;}int main(){}", api.ErrName)
	refusesAt(t, "int f(){"+most+"{`break;}}int main(){}", api.ErrPlace)
	refusesAt(t, "int `f(){"+most+";}int main(){x;}", api.ErrLimit)
	refusesAt(t, "int `f(){"+most+";}", api.ErrLimit)
	refusesAt(t, "int `f(){"+most+";}int main(int a){}", api.ErrLimit)
	refusesAt(t, "int f(){`x;}int main(){"+most+";}", api.ErrName)
	refusesAt(t, "int f(){}int `main(){"+most+";}", api.ErrLimit)
	refusesAt(t, "int `f(){"+most+";}int main(){"+most+";}", api.ErrLimit)
	refusesAt(t, "int f(){"+most+strings.Repeat("{int x;}", api.MaxLocals)+"`int y;}int main(){}", api.ErrLimit)
}

// TestStars is of P4.1: three stars by an address, and the fourth.
func TestStars(t *testing.T) {
	for _, kind := range kinds {
		decls := strings.ReplaceAll("% **b;% ***c;% *d[2];% **e[2];", "%", spelt(kind))
		comes(t, decls, "&b", 0, kind+"***")
		comes(t, decls, "&*b", 0, kind+"**")
		comes(t, decls, "&c[1]", 0, kind+"***")
		comes(t, decls, "&**c", 0, kind+"**")
		comes(t, decls, "&d[1]", 0, kind+"**")
		comes(t, decls, "&e[1]", 0, kind+"***")
		comes(t, decls, "&c", 0, fourth)
		comes(t, decls, "1+& c", 2, fourth)
		comes(t, decls, "& *&c", 3, fourth)
		comes(t, decls, "&c++", 0, no)
		comes(t, decls, "&e", 0, no)
		comes(t, decls, "&(c+1)", 0, no)
	}
	comes(t, "int***c[1];", "1", 0, "!6@11")
}
