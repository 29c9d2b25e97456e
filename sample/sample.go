// Package sample: programs to try all that is told of programs with. It is no layer; tests alone
// ask for it.
package sample

import (
	"slices"
	"strconv"
	"strings"
)

// Mix tells numbers from 0 to below n, without any order that is to be seen, the same each time.
func Mix(seed uint64) func(n int) int {
	return func(n int) int {
		seed ^= seed << 13
		seed ^= seed >> 7
		seed ^= seed << 17
		return int(seed >> 11 % uint64(n))
	}
}

// maker makes programs.
type maker struct {
	below  func(n int) int
	scope        // what there is where something is made
	locals int   // how many there are already
	labels []int // of the function
	nodes  int   // how many more expressions and statements there may be in the function
}

// scope is what may stand somewhere: places of integers, places of pointers to int, other such
// pointers; whether break and continue may.
type scope struct {
	ints, ptrs, others []string
	out, loop          bool
}

const madeGlobals = "int x;unsigned char y=200;long z=-5;unsigned int u=7;unsigned long w;short s[3]={1,2,3};int a[4]={4,5,6,7};int*p;int*q;int**r;"

// Made tells a program that hangs on seed alone.
func Made(seed uint64) string {
	m := maker{below: Mix(seed)}
	m.ints = strings.Fields("x y z u w a[1] s[2] a[x&3] (*(a+(u&3)))")
	m.ptrs = strings.Fields("p q (*(x?&p:&q))")
	m.others = strings.Fields("a (&x) (&a[2]) (&a[x&3]) (a+4)")
	outer := m.scope
	s := madeGlobals
	for i, head := range []string{"int f(int m,int*n)", "int*g(int m)", "void h(int*n)", "int main()"} {
		m.scope, m.labels, m.nodes = outer, nil, 40
		if i < 2 {
			m.ints, m.others = with(m.ints, "m"), with(m.others, "(&m)")
		}
		if i%2 == 0 {
			m.ptrs = with(m.ptrs, "n")
		}
		body := m.stmts(3+m.below(5), 3)
		switch i {
		case 0:
			body += "return " + m.int(1) + ";"
		case 1:
			body += "return " + m.ptr(1) + ";"
		}
		s += head + "{" + m.led(body) + "}"
	}
	return s
}

// with tells a list with one more, in new memory: outer scopes have the shorter one.
func with(l []string, more ...string) []string { return slices.Concat(l, more) }

func (m *maker) of(l ...string) string { return l[m.below(len(l))] }

// led tells a body with a label at each goto.
func (m *maker) led(body string) string {
	if m.labels == nil {
		m.labels, body = []int{0}, "L0:"+body
	}
	for strings.Contains(body, "@") {
		label := m.labels[m.below(len(m.labels))]
		body = strings.Replace(body, "@", "L"+strconv.Itoa(label), 1)
	}
	return body
}

// stmts makes so many statements, or less; what is declared in them is known up to their end.
func (m *maker) stmts(n, deep int) string {
	outer := m.scope
	s := ""
	for range n {
		if m.nodes > 0 {
			s += m.stmt(deep)
		}
	}
	m.scope = outer
	return s
}

func (m *maker) block(deep int) string { return "{" + m.stmts(1+m.below(3), deep) + "}" }

func (m *maker) stmt(deep int) string {
	m.nodes--
	if deep > 0 && m.below(5) < 2 {
		return m.holding(deep - 1)
	}
	switch m.below(16) {
	case 0, 1, 2, 3, 4:
		return "put(" + m.int(2) + ");"
	case 5, 6:
		return m.int(2) + ";"
	case 7:
		return m.ptr(2) + ";"
	case 8, 9:
		return m.decl()
	case 10, 11:
		m.labels = append(m.labels, len(m.labels))
		return "L" + strconv.Itoa(len(m.labels)-1) + ":"
	case 12:
		return "if(" + m.int(1) + ")goto @;"
	case 13:
		return "h(" + m.ptr(1) + ");"
	case 14:
		if m.loop && m.below(2) == 0 {
			return "continue;"
		}
		if m.out {
			return "break;"
		}
	}
	return "if(" + m.int(1) + "==" + m.int(1) + ")exit(" + m.int(1) + ");"
}

func (m *maker) decl() string {
	name := "v" + strconv.Itoa(m.locals)
	m.locals++
	switch m.below(5) {
	case 0:
		m.ptrs = with(m.ptrs, name+"[0]", name+"[x&1]")
		return "int*" + name + "[2];"
	case 1:
		p := m.ptr(1)
		m.ptrs = with(m.ptrs, name)
		return "int*" + name + "=" + p + ";"
	case 2:
		m.ints, m.others = with(m.ints, name), with(m.others, "(&"+name+")")
		return "int " + name + ";"
	case 3:
		m.ints, m.others = with(m.ints, name+"[1]"), with(m.others, name)
		return "int " + name + "[3];"
	}
	n := m.int(1)
	m.ints = with(m.ints, name)
	return m.of("char ", "int ", "unsigned short ", "long ", "unsigned int ") + name + "=" + n + ";"
}

// holding makes a statement that holds others.
func (m *maker) holding(deep int) string {
	outer := m.scope
	defer func() { m.scope = outer }()
	kind := m.below(8)
	head := m.of("x++<5", "u--%4", m.int(1))
	m.out = m.out || kind > 2
	m.loop = m.loop || kind > 2 && kind < 7
	switch kind {
	case 0:
		return m.block(deep)
	case 1:
		return "if(" + head + ")" + m.block(deep)
	case 2:
		return "if(" + m.of(head, m.ptr(1)) + ")" + m.block(deep) + "else " + m.block(deep)
	case 3:
		return "while(" + head + ")" + m.block(deep)
	case 4:
		return "do" + m.block(deep) + "while(" + head + ");"
	case 5:
		return "for(x=0;x<" + strconv.Itoa(m.below(5)) + ";x++)" + m.block(deep)
	case 6:
		return "for(" + m.of("", m.int(1)) + ";" + m.of("", head) + ";" + m.of("", m.int(1)) + ")" + m.block(deep)
	}
	s := "switch(" + m.int(1) + "&3){"
	for _, label := range strings.Fields(m.of("case_0: case_1: default:", "case_3: case_2: case_1:", "default:", "case_1: case_4294967296: case_2:")) {
		label = strings.Replace(label, "_", " ", 1)
		switch m.below(5) {
		case 0:
			s += "while(x++<3){" + m.stmts(1, 0) + label + m.stmts(1, deep) + "}"
		case 1:
			s += "{" + label + m.stmts(1, deep) + "}"
		case 2:
			s += label + m.stmts(1, deep) + "break;"
		default:
			s += label + m.stmts(2, deep)
		}
	}
	return s + "}"
}

// int makes an expression that is an integer.
func (m *maker) int(deep int) string {
	m.nodes--
	if deep == 0 || m.below(4) == 0 {
		return m.of(strconv.Itoa(m.below(5)), m.of("2147483647", "(-1)", "4294967295", "get()", "sizeof(int)"), m.of(m.ints...), m.of(m.ints...), m.of(m.ints...))
	}
	a, place := m.int(deep-1), m.of(m.ints...)
	switch m.below(14) {
	case 0, 1, 2:
		return "(" + a + m.of("+", "-", "*", "/", "%", "&", "^", "|", "<<", ">>", "<", "<=", ">", ">=", "==", "!=") + m.int(deep-1) + ")"
	case 3:
		return m.of("(-", "(~", "(!", "((char)", "((unsigned int)", "((long)", "((unsigned short)") + a + ")"
	case 4, 5:
		return "(" + place + "=" + a + ")"
	case 6:
		return "(" + place + m.of("+", "-", "*", "/", "%", "&", "^", "|", "<<", ">>") + "=" + a + ")"
	case 7:
		return "(" + m.of("++", "--") + place + ")"
	case 8:
		return "(" + place + m.of("++", "--") + ")"
	case 9:
		return "(" + a + "?" + m.int(deep-1) + ":" + m.int(deep-1) + ")"
	case 10:
		return "(" + a + m.of("&&", "||") + m.int(deep-1) + ")"
	case 11:
		return "f(" + a + "," + m.ptr(deep-1) + ")"
	case 12:
		return "(" + m.ptr(deep-1) + m.of("==", "!=", "==", "!=", "<", "-", "&&", ">=") + m.ptr(deep-1) + ")"
	}
	return m.of("(*"+m.ptr(deep-1)+")", "(*"+m.of(m.others...)+")", m.ptr(deep-1)+"[0]", "(!"+m.ptr(deep-1)+")", "a["+a+"&3]", "s["+a+"%3]", "(**(r=&p))")
}

// ptr makes an expression that is a pointer to int.
func (m *maker) ptr(deep int) string {
	m.nodes--
	place, other := m.of(m.ptrs...), m.of(m.others...)
	if deep == 0 || m.below(4) == 0 {
		return m.of(place, other)
	}
	switch p := m.ptr(deep - 1); m.below(8) {
	case 0, 1:
		return "(" + place + "=" + p + ")"
	case 2:
		return "(" + p + m.of("+", "-") + "(" + m.int(deep-1) + "&1))"
	case 3:
		return "(" + place + m.of("++", "--", "+=1", "-=1") + ")"
	case 4:
		return "(" + m.int(deep-1) + "?" + p + ":" + m.of("0", other) + ")"
	case 5:
		return "g(" + m.int(deep-1) + ")"
	case 6:
		return m.of("(*(r=&p)=a)", "(*(r=&q))", "(r?*r:a)")
	default:
		return "(&*" + p + ")"
	}
}
