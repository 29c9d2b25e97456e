package check_test

import (
	"slices"
	"strconv"
	"strings"
	"testing"

	"gantlet/api"
	"gantlet/check"
)

// Each op is held against the chapter with operands of all types. Types are texts here,
// and the rules are told once more, by texts alone.

// operand is an expression with what must be declared for it; a % is a name in both. Typ
// is as what it counts (decayed), own the type that it has, if that is another one.
type operand struct {
	decl, text, typ string
	own             string
	null, place     bool
	at              int // where in the text its operator stands, or what it is begins
}

// operands are of each integer, of pointers of each depth, of arrays of each, and of others.
func operands() []operand {
	var l []operand
	for _, s := range strings.Fields("char unsigned_char short unsigned_short int unsigned_int long unsigned_long int* int** int*** uchar* long* void* void** void*** char*** ulong**") {
		l = append(l, operand{decl: spelt(s) + " %;", text: "%", typ: short(s), place: true})
	}
	for i, s := range strings.Fields("int int* int** void* void** unsigned_char unsigned_long long int* void*") {
		length := []string{"[1]", "[2]", "[64]"}[i%3]
		l = append(l, operand{decl: spelt(s) + " %" + length + ";", text: "%", typ: short(s) + "*", own: short(s) + length})
	}
	return append(l, []operand{
		{text: "0", typ: "int", null: true}, {text: "(0)", typ: "int", null: true, at: 1}, {text: "1", typ: "int"}, {text: "-0", typ: "int"}, {text: "(int)0", typ: "int"},
		{text: "2147483648", typ: "long"}, {text: "sizeof(int)", typ: "ulong", own: "int"}, {text: "sizeof(void*)", typ: "ulong", own: "void*"},
		{text: "put(1)", typ: "void"}, {text: "get()", typ: "long"},
		{decl: "int* %;", text: "%[1]", typ: "int", place: true, at: 1}, {decl: "void** %;", text: "*%", typ: "void*", place: true}, {decl: "int** %[3];", text: "%[1]", typ: "int**", place: true, at: 1},
		{decl: "int %;", text: "&%", typ: "int*"}, {decl: "int* %;", text: "%++", typ: "int*", at: 1}, {decl: "char %;", text: "%=1", typ: "char", at: 1}, {decl: "int* %;", text: "%=0", typ: "int*", at: 1},
	}...)
}

// spelt tells a type as a program has it, short as these tests have it: as one word.
func spelt(s string) string {
	s = strings.ReplaceAll(s, "_", " ")
	if strings.HasPrefix(s, "u") && !strings.HasPrefix(s, "unsigned") {
		return "unsigned " + s[1:]
	}
	return s
}

func short(s string) string { return strings.ReplaceAll(s, "unsigned_", "u") }

// named tells an operand with its name, in brackets.
func (o operand) named(name string) operand {
	o.decl = strings.ReplaceAll(o.decl, "%", name)
	o.text = "(" + strings.ReplaceAll(o.text, "%", name) + ")"
	return o
}

func isInt(s string) bool { return slices.Contains(kinds[1:], s) }

func isPtr(s string) bool { return strings.HasSuffix(s, "*") }

func isUsed(s string) bool { return isPtr(s) && s != "void*" }

func isAsked(s string) bool { return isInt(s) || isPtr(s) }

var wide = strings.Fields("int uint long ulong")

// up tells an integer's type promoted, joined that of two.
func up(s string) string {
	if !slices.Contains(wide, s) {
		return "int"
	}
	return s
}

func joined(a, b string) string {
	return wide[max(slices.Index(wide, up(a)), slices.Index(wide, up(b)))]
}

// goes tells whether an operand fits a type.
func (o operand) goes(typ string) bool {
	return isInt(o.typ) && isInt(typ) || isPtr(typ) && (o.typ == typ || o.null)
}

// wrong is in a type's stead where the types do not fit, no where none may stand.
const wrong, no, fourth = "!type", "!place", "!limit"

// both tells what a sign makes of two operands.
func both(sign string, a, b operand) string {
	ints := isInt(a.typ) && isInt(b.typ)
	switch {
	case slices.Contains(strings.Fields("* / % & ^ | + -"), sign) && ints:
		return joined(a.typ, b.typ)
	case (sign == "+" || sign == "-") && isUsed(a.typ) && isInt(b.typ):
		return a.typ
	case sign == "+" && isInt(a.typ) && isUsed(b.typ):
		return b.typ
	case sign == "-" && isUsed(a.typ) && a.typ == b.typ:
		return "long"
	case (sign == "<<" || sign == ">>") && ints:
		return up(a.typ)
	case slices.Contains(strings.Fields("< <= > >= == !="), sign) && (ints || isPtr(a.typ) && a.typ == b.typ):
		return "int"
	case (sign == "==" || sign == "!=") && (a.null && isPtr(b.typ) || b.null && isPtr(a.typ)):
		return "int"
	case (sign == "&&" || sign == "||") && isAsked(a.typ) && isAsked(b.typ):
		return "int"
	}
	return wrong
}

// outcome tells the type of the last statement's expression in main, or the fault.
func outcome(t *testing.T, s string) string {
	t.Helper()
	u, f := check.Check(parsed(t, s))
	if f.Err != 0 {
		return told(api.Errno(f.Err), f.Pos)
	}
	body := u.Funcs[len(u.Funcs)-1].Body
	return showType(body[len(body)-1].Expr[0].Type)
}

func told(err api.Errno, pos int) string {
	return "!" + strconv.Itoa(int(err)) + "@" + strconv.Itoa(pos)
}

// comes holds that an expression behind declarations has a type, or is faulty at its operator,
// which stands behind so many bytes of it.
func comes(t *testing.T, decls, expr string, operator int, want string) {
	t.Helper()
	s := inMain("", decls+expr+";")
	pos := len(s) - len(expr) - 2 + operator
	switch want {
	case wrong:
		want = told(api.ErrType, pos)
	case no:
		want = told(api.ErrPlace, pos)
	case fourth:
		want = told(api.ErrLimit, pos)
	}
	if got := outcome(t, s); got != want {
		t.Errorf("%q: %s; should be %s", s, got, want)
	}
}

// pairs goes through all pairs of operands.
func pairs(one func(a, b operand)) {
	for _, a := range operands() {
		for _, b := range operands() {
			one(a.named("a"), b.named("b"))
		}
	}
}

// TestBinary is of P4.1: each op of two, of operands of all types.
func TestBinary(t *testing.T) {
	for _, sign := range strings.Fields("* / % + - << >> < <= > >= == != & ^ | && ||") {
		t.Run(sign, func(t *testing.T) {
			t.Parallel()
			pairs(func(a, b operand) {
				comes(t, a.decl+b.decl, a.text+sign+b.text, len(a.text), both(sign, a, b))
			})
		})
	}
}

// TestAssign is of P4.1: =, and it with each op, of operands of all types.
func TestAssign(t *testing.T) {
	for _, sign := range strings.Fields("= * / % + - << >> & ^ |") {
		t.Run(sign, func(t *testing.T) {
			t.Parallel()
			pairs(func(a, b operand) {
				comes(t, a.decl+b.decl, a.text+strings.TrimSuffix(sign, "=")+"="+b.text, len(a.text), stored(sign, a, b))
			})
		})
	}
}

// stored tells what comes of an assignment.
func stored(sign string, a, b operand) string {
	if !a.place {
		return no
	}
	ok := b.goes(a.typ)
	if sign != "=" {
		ok = operand{typ: both(sign, a, b)}.goes(a.typ)
	}
	if !ok {
		return wrong
	}
	return a.typ
}

// TestCond is of P4.1: ? of all types.
func TestCond(t *testing.T) {
	pairs(func(a, b operand) {
		want := wrong
		switch {
		case isInt(a.typ) && isInt(b.typ):
			want = joined(a.typ, b.typ)
		case a.typ == b.typ || b.goes(a.typ):
			want = a.typ
		case a.goes(b.typ):
			want = b.typ
		}
		comes(t, a.decl+b.decl, "1?"+a.text+":"+b.text, 1, want)
		if want = wrong; isAsked(a.typ) && isInt(b.typ) {
			want = up(b.typ)
		}
		comes(t, a.decl+b.decl, a.text+"?"+b.text+":"+b.text, len(a.text), orSame(want, a, b))
	})
}

// orSame is what a ? tells whose parts are one operand that is no integer.
func orSame(want string, a, b operand) string {
	if isAsked(a.typ) && !isInt(b.typ) {
		return b.typ
	}
	return want
}

// TestIndex is of P4.1: [ ] of all types.
func TestIndex(t *testing.T) {
	pairs(func(a, b operand) {
		want := wrong
		if isUsed(a.typ) && isInt(b.typ) {
			want = strings.TrimSuffix(a.typ, "*")
		}
		comes(t, a.decl+b.decl, a.text+"["+b.text+"]", len(a.text), want)
	})
}

// TestUnary is of P4.1: each op of one operand, of all types.
func TestUnary(t *testing.T) {
	for _, o := range operands() {
		o := o.named("a")
		want := map[string]string{"-": wrong, "~": wrong, "!": wrong, "*": wrong, "&": no, "++": no, "--": no}
		if isInt(o.typ) {
			want["-"], want["~"] = up(o.typ), up(o.typ)
		}
		if isAsked(o.typ) {
			want["!"] = "int"
		}
		if isUsed(o.typ) {
			want["*"] = strings.TrimSuffix(o.typ, "*")
		}
		if o.place {
			want["&"], want["++"], want["--"] = o.typ+"*", wrong, wrong
			if strings.HasSuffix(o.typ, "***") {
				want["&"] = fourth
			}
			if isInt(o.typ) || isUsed(o.typ) {
				want["++"], want["--"] = o.typ, o.typ
			}
		}
		for sign, typ := range want {
			comes(t, o.decl, sign+o.text, 0, typ)
		}
		comes(t, o.decl, o.text+"++", len(o.text), want["++"])
		comes(t, o.decl, o.text+"--", len(o.text), want["--"])
	}
}

// allTypes are those that stand ahead of a name.
func allTypes() []string {
	var l []string
	for _, kind := range strings.Fields("void char unsigned_char short unsigned_short int unsigned_int long unsigned_long") {
		for stars := range 4 {
			l = append(l, kind+strings.Repeat("*", stars))
		}
	}
	return l
}

// TestCast is of P4.1: casts of all types to all types.
func TestCast(t *testing.T) {
	for _, typ := range allTypes() {
		for _, o := range operands() {
			o := o.named("a")
			want := wrong
			if isInt(short(typ)) && isInt(o.typ) {
				want = short(typ)
			}
			comes(t, o.decl, "("+spelt(typ)+")"+o.text, 0, want)
		}
	}
}

// TestSize is of P4.1: sizes of all types. The type stays the one that is asked; it counts as one of TU64.
func TestSize(t *testing.T) {
	bytes := map[string]int{"char": 1, "uchar": 1, "short": 2, "ushort": 2, "int": 4, "uint": 4, "long": 8, "ulong": 8}
	for _, typ := range allTypes() {
		s := "sizeof(" + spelt(typ) + ")"
		if typ == "void" {
			refusesAt(t, inMain("", "`"+s+";"), api.ErrType)
			continue
		}
		n := 8
		if !isPtr(typ) {
			n = bytes[short(typ)]
		}
		size := "Size#" + strconv.Itoa(n) + ":" + short(typ)
		fills(t, inMain("", s+";"), " | main:int()<>{Expr["+size+"]}")
		fills(t, inMain("", "-"+s+";"), " | main:int()<>{Expr[Minus:ulong("+size+")]}")
	}
}

// TestOwnType is of P4.1: what an operand has as its own type, as it was declared.
func TestOwnType(t *testing.T) {
	for _, o := range operands() {
		o := o.named("a")
		want := o.typ
		if o.own != "" {
			want = o.own
		}
		comes(t, o.decl, o.text, 0, want)
	}
}

// fit holds that Check takes a program, or else refuses it at the place that is marked in it.
func fit(t *testing.T, ok bool, s string) {
	t.Helper()
	if ok {
		taken(t, strings.Replace(s, "`", " ", 1))
	} else {
		refusesAt(t, s, api.ErrType)
	}
}

// TestFits is of P4.1: what is told to a local, to a parameter, and by a function, of all
// types to all types.
func TestFits(t *testing.T) {
	for _, typ := range allTypes() {
		for _, o := range operands() {
			o, s := o.named("a"), spelt(typ)
			ok := o.goes(short(typ))
			fit(t, ok, s+" f(){"+o.decl+"return "+o.marked()+";}int main(){}")
			if typ == "void" {
				continue
			}
			fit(t, ok, inMain("", o.decl+s+" b="+o.marked()+";"))
			fit(t, ok, inMain("void f("+s+" x){}", o.decl+"`f("+o.text+");"))
			fit(t, ok, inMain("void f(long a,"+s+" x,int*y){}", o.decl+"`f(1,"+o.text+",0);"))
		}
	}
}

// marked tells an operand's text with a ` ahead of its place.
func (o operand) marked() string {
	text := o.text[1 : len(o.text)-1]
	return text[:o.at] + "`" + text[o.at:]
}

// TestAsked is of P4.1: conditions, and what a switch asks, of all types.
func TestAsked(t *testing.T) {
	for _, o := range operands() {
		o := o.named("a")
		for _, s := range strings.Fields("if(%); if(%);else; while(%); do;while(%); for(;%;); for(1;%;2); for(put(1);%;put(2));") {
			fit(t, isAsked(o.typ), inMain("", o.decl+strings.Replace(s, "%", o.marked(), 1)))
		}
		fit(t, isInt(o.typ), inMain("", o.decl+"switch("+o.marked()+");"))
		taken(t, inMain("", o.decl+o.text+";for("+o.text+";;"+o.text+");"))
	}
}
