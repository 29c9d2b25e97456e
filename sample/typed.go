package sample

import (
	"slices"
	"strconv"
	"strings"
)

// typist makes programs of three integer types, each one with a global, an array and pointers. Most
// of what it makes is not stuck: pointers lead to elements, and indices are below 4.
type typist struct {
	below  func(n int) int
	types  []string
	ints   []string   // places of integers
	ptrs   [][]string // of each type, places of pointers
	others [][]string // likewise, other pointers
	locals int
	nodes  int
	loops  int  // how many the statement stands in
	calls  bool // whether functions may be called
}

// Typed tells a program that hangs on seed alone.
func Typed(seed uint64) string {
	m := typist{below: Mix(seed), ptrs: make([][]string, 3), others: make([][]string, 3)}
	all := []string{"char", "unsigned char", "short", "unsigned short", "int", "unsigned int", "long", "unsigned long"}
	s := ""
	for i := range 3 {
		n := strconv.Itoa(i)
		t := all[m.below(len(all))]
		m.types = append(m.types, t)
		m.ints = append(m.ints, "g"+n, "a"+n+"["+n+"]", "*p"+n)
		m.ptrs[i] = []string{"p" + n}
		m.others[i] = []string{"a" + n, "(a" + n + "+2)", "(&a" + n + "[g" + n + "&3])", "(&g" + n + ")"}
		s += t + " g" + n + "=" + m.number() + ";" + t + " a" + n + "[4]={" + m.number() + "," + m.number() + "};" + t + "*p" + n + ";"
	}
	s += "int c;"
	s += m.function(m.types[0]+" f("+m.types[1]+" x,"+m.types[2]+" y)", []string{"x", "y"}, []string{"x", "y"}, "return x"+m.op()+"y;")
	m.calls = true
	s += m.function(m.types[1]+"*h("+m.types[1]+"*q,"+m.types[0]+" z)", []string{"q", "z"}, []string{"*q", "z"}, "return q;")
	return s + m.function("int main()", nil, nil, "")
}

func (m *typist) of(l ...string) string { return l[m.below(len(l))] }

func (m *typist) number() string {
	return m.of("0", "1", "-1", "7", "-8", "127", "128", "-129", "255", "256", "32768", "65535", "2147483647", "2147483648", "4294967295", "4294967296", "9223372036854775807", strconv.Itoa(m.below(100)))
}

func (m *typist) op() string {
	return m.of(strings.Fields("+ - * / % & ^ | << >> < <= > >= == != && ||")...)
}

// function makes one with a head, parameters, places that it has for itself, and an end. Of some
// parameters pointers are made, of others not.
func (m *typist) function(head string, params, places []string, end string) string {
	outer := *m
	m.ptrs, m.ints, m.nodes = slices.Clone(m.ptrs), with(m.ints, places...), 60
	body := ""
	for i := range 3 {
		p := strconv.Itoa(i)
		body += m.of("", "if(!p"+p+")") + "p" + p + "=a" + p + "+" + strconv.Itoa(m.below(4)) + ";"
	}
	for _, name := range params {
		body += m.of("", "*&"+name+"="+name+";")
	}
	for range 4 + m.below(6) {
		body += m.stmt(2)
	}
	for _, place := range with(places, "g0", "g1", "g2") {
		body += "put(" + place + ");"
	}
	below, locals := m.below, m.locals
	*m = outer
	m.below, m.locals = below, locals
	return head + "{" + body + end + "}"
}

func (m *typist) stmt(deep int) string {
	if m.nodes--; m.nodes < 0 {
		return "put(" + m.of(m.ints...) + ");"
	}
	if deep > 0 && m.below(4) == 0 {
		return m.holding(deep - 1)
	}
	switch m.below(10) {
	case 0, 1, 2, 3:
		return "put(" + m.int(3) + ");"
	case 4, 5:
		return m.int(3) + ";"
	case 6:
		i := m.below(3)
		return m.of(m.ptrs[i]...) + "=" + m.ptr(i, 1) + ";"
	case 7:
		if m.calls {
			return "p1=h(" + m.ptr(1, 1) + "," + m.int(1) + ");"
		}
	}
	return m.decl()
}

func (m *typist) decl() string {
	i := m.below(3)
	name, t := "v"+strconv.Itoa(m.locals), m.types[i]
	if m.loops > 0 || m.locals%8 == 7 {
		return "put(" + m.int(2) + ");"
	}
	m.locals++
	switch m.below(4) {
	case 0:
		m.ints = with(m.ints, name+"[1]", name+"[g0&3]")
		return t + " " + name + "[4];"
	case 1:
		p := m.ptr(i, 1)
		m.ptrs[i] = with(m.ptrs[i], name)
		m.ints = with(m.ints, "*"+name)
		return t + "*" + name + "=" + p + ";"
	}
	e := m.int(2)
	m.ints = with(m.ints, name)
	return t + " " + name + "=" + e + ";"
}

// holding makes a statement that holds others. What is declared in it is not known behind it.
func (m *typist) holding(deep int) string {
	m.loops++
	defer func() { m.loops-- }()
	body := func() string { return "{" + m.stmt(deep) + m.stmt(deep) + "}" }
	switch m.below(6) {
	case 0:
		return "if(" + m.int(2) + ")" + body()
	case 1:
		return "if(" + m.int(2) + ")" + body() + "else" + body()
	case 2:
		return "for(c=0;c<3;c++)" + body()
	case 3:
		return "do" + body() + "while(c++<" + strconv.Itoa(m.below(4)) + ");"
	case 4:
		return "while(c--&3)" + body()
	}
	return "switch(" + m.int(2) + "){case 0:" + m.stmt(deep) + m.of("break;", "") + "case -1:" + m.stmt(deep) + "case 255:default:" + m.stmt(deep) + "}"
}

// int makes an expression that is an integer.
func (m *typist) int(deep int) string {
	m.nodes--
	if deep == 0 || m.nodes < 0 || m.below(5) == 0 {
		return m.of(strings.Replace("("+m.number()+")", "(-", "(0-", 1), m.of(m.ints...), m.of(m.ints...), m.of(m.ints...))
	}
	a, place := m.int(deep-1), m.of(m.ints...)
	i := m.below(3)
	switch m.below(15) {
	case 0, 1, 2, 3:
		return "(" + a + m.op() + m.int(deep-1) + ")"
	case 4:
		return "(" + m.of("-", "~", "!", "-", "~") + " " + a + ")"
	case 5:
		return "((" + m.of("char", "unsigned char", "short", "unsigned short", "int", "unsigned int", "long", "unsigned long") + ")" + a + ")"
	case 6:
		return "(" + place + "=" + a + ")"
	case 7, 8:
		return "(" + place + m.of(strings.Fields("+= -= *= /= %= &= ^= |= <<= >>=")...) + a + ")"
	case 9:
		return "(" + m.of("++", "--") + place + ")"
	case 10:
		return "((" + place + ")" + m.of("++", "--") + ")"
	case 11:
		return "(" + a + "?" + m.int(deep-1) + ":" + m.int(deep-1) + ")"
	case 12:
		if m.calls {
			return "f(" + a + "," + m.int(deep-1) + ")"
		}
		return "get()"
	case 13:
		p := m.others[i][0]
		return m.of("("+p+"+("+a+"&3)-"+p+")", "("+m.ptr(i, 0)+m.of("==", "!=")+m.ptr(i, 0)+")", "(!"+m.ptr(i, 0)+")", "("+p+"<&"+p+"["+a+"&3])")
	}
	return m.of("(*"+m.ptr(i, deep-1)+")", m.ptr(i, 0)+"[0]", m.others[i][0]+"["+a+"&3]", "(int)sizeof("+m.types[i]+")", "get()")
}

// ptr makes an expression that is a pointer to one of the types.
func (m *typist) ptr(i, deep int) string {
	m.nodes--
	place, other := m.of(m.ptrs[i]...), m.of(m.others[i]...)
	if deep == 0 || m.below(3) == 0 {
		return m.of(place, other)
	}
	switch m.below(5) {
	case 0:
		return "(" + place + "=" + m.ptr(i, deep-1) + ")"
	case 1:
		return "(" + m.int(deep-1) + "?" + place + ":" + other + ")"
	case 2:
		return "(&*" + place + ")"
	case 3:
		return "(" + m.others[i][0] + m.of("+", "+", "+1+", "+3-") + "(" + m.int(deep-1) + "&1))"
	}
	return "(&" + m.others[i][0] + "[" + m.int(deep-1) + "&3])"
}
