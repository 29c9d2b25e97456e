package parse_test

import (
	"slices"
	"strconv"
	"strings"
	"testing"

	"gantlet/api"
	"gantlet/parse"
)

// maker makes units by a fixed rule, and their tokens with them; a Pos is a token's number
// until the tokens are laid out. Room is how many tokens may be made yet, but for a few.
type maker struct {
	below  func(int) int
	tokens []string
	room   int
}

// put makes tokens, and tells the number of the first one.
func (m *maker) put(tokens ...string) int {
	m.tokens = append(m.tokens, tokens...)
	m.room -= len(tokens)
	return len(m.tokens) - len(tokens)
}

func (m *maker) name() string {
	return []string{"a", "b", "x1", "_", "If", "main", "intx"}[m.below(7)]
}

// number makes one, sometimes with zeros ahead.
func (m *maker) number() int64 {
	n := []int64{0, 1, 2, 9, 10, 255, 1 << 31, 1<<63 - 1}[m.below(8)]
	m.put(strings.Repeat("0", max(0, m.below(8)-5)) + strconv.FormatInt(n, 10))
	return n
}

func (m *maker) value() int64 {
	if m.below(3) == 0 {
		m.put("-")
		return -m.number()
	}
	return m.number()
}

func (m *maker) typ() api.Type {
	t := api.Type{Kind: m.below(9), Ptr: max(0, m.below(6)-2)}
	m.put([]string{"void", "char", "unsigned char", "short", "unsigned short", "int", "unsigned int", "long", "unsigned long"}[t.Kind])
	last := len(m.tokens) - 1
	m.tokens = append(m.tokens[:last], strings.Fields(m.tokens[last])...)
	for range t.Ptr {
		m.put("*")
	}
	return t
}

// length makes an array's, sometimes.
func (m *maker) length() int {
	if m.below(3) > 0 {
		return 0
	}
	n := []int{1, 2, 63, api.MaxLen}[m.below(4)]
	m.put("[", strconv.Itoa(n), "]")
	return n
}

func (m *maker) unit() api.Unit {
	var u api.Unit
	for range m.below(10) {
		if m.below(2) == 0 && len(u.Funcs) < api.MaxFuncs {
			u.Funcs = append(u.Funcs, m.function())
		} else {
			u.Globals = append(u.Globals, m.global())
		}
	}
	return u
}

func (m *maker) global() api.Decl {
	d := api.Decl{Type: m.typ(), Name: m.name()}
	d.Pos = m.put(d.Name)
	d.Type.Len = m.length()
	if m.below(2) == 0 {
		m.put("=")
		if d.Type.Len > 0 {
			m.put("{")
		}
		d.Init = []int64{m.value()}
		for range min(d.Type.Len-1, m.below(4)) {
			m.put(",")
			d.Init = append(d.Init, m.value())
		}
		if d.Type.Len > 0 {
			m.put("}")
		}
	}
	m.put(";")
	return d
}

func (m *maker) function() api.Func {
	f := api.Func{Ret: m.typ(), Name: m.name()}
	f.Pos = m.put(f.Name)
	m.put("(")
	n := m.below(api.MaxParams + 1)
	for i := range n {
		if i > 0 {
			m.put(",")
		}
		d := api.Decl{Type: m.typ(), Name: m.name()}
		d.Pos = m.put(d.Name)
		f.Params = append(f.Params, d)
	}
	if n == 0 && m.below(2) == 0 {
		m.put("void")
	}
	m.put(")")
	f.Body = m.block(1)
	return f
}

func (m *maker) block(deep int) []api.Stmt {
	m.put("{")
	var l []api.Stmt
	for m.room > 0 && deep < api.MaxDeep && m.below(5) > 0 {
		l = append(l, m.stmt(deep+1, true))
	}
	m.put("}")
	return l
}

// stmt makes a statement that stands so deep. Free says that an else behind it would find
// no if in it that has none.
func (m *maker) stmt(deep int, free bool) api.Stmt {
	s := api.Stmt{Pos: len(m.tokens)}
	kind := m.below(17)
	if deep == api.MaxDeep || m.room <= 0 {
		kind = m.below(9)
	}
	switch kind {
	case 0:
		s.Op = api.SEmpty
		m.put(";")
	case 1:
		m.put("case")
		s.Op, s.N = api.SCase, m.value()
		m.put(":")
	case 2:
		s.Op = api.SDefault
		m.put("default", ":")
	case 3:
		s.Op = api.SBreak
		m.put("break", ";")
	case 4:
		s.Op = api.SContinue
		m.put("continue", ";")
	case 5:
		s.Op, s.Name = api.SGoto, m.name()
		m.put("goto", s.Name, ";")
	case 6:
		s.Op, s.Name = api.SLabel, m.name()
		m.put(s.Name, ":")
	case 7:
		s.Op = api.SReturn
		m.put("return")
		if deep < api.MaxDeep && m.below(3) > 0 {
			s.Expr = []api.Expr{m.expr(levelExpr, deep+1)}
		}
		m.put(";")
	case 8:
		m.local(&s, deep)
	case 9, 10:
		s.Op, s.Expr = api.SExpr, []api.Expr{m.expr(levelExpr, deep+1)}
		m.put(";")
	case 11:
		s.Op, s.Body = api.SBlock, m.block(deep)
	default:
		m.holding(&s, deep, free)
	}
	return s
}

func (m *maker) local(s *api.Stmt, deep int) {
	s.Op, s.Type, s.Name = api.SDecl, m.typ(), m.name()
	m.put(s.Name)
	s.Type.Len = m.length()
	if s.Type.Len == 0 && deep < api.MaxDeep && m.below(2) == 0 {
		m.put("=")
		s.Expr = []api.Expr{m.expr(levelExpr, deep+1)}
	}
	m.put(";")
}

func (m *maker) holding(s *api.Stmt, deep int, free bool) {
	asked := func() []api.Expr {
		m.put("(")
		e := m.expr(levelExpr, deep+1)
		m.put(")")
		return []api.Expr{e}
	}
	switch m.below(5) {
	case 0:
		m.put("if")
		s.Op, s.Expr = api.SIf, asked()
		two := !free || m.below(2) == 0
		s.Body = []api.Stmt{m.stmt(deep+1, !two)}
		if two {
			m.put("else")
			s.Body = append(s.Body, m.stmt(deep+1, free))
		}
	case 1:
		m.put("while")
		s.Op, s.Expr = api.SWhile, asked()
		s.Body = []api.Stmt{m.stmt(deep+1, free)}
	case 2:
		m.put("switch")
		s.Op, s.Expr = api.SSwitch, asked()
		s.Body = []api.Stmt{m.stmt(deep+1, free)}
	case 3:
		m.put("do")
		s.Op, s.Body = api.SDo, []api.Stmt{m.stmt(deep+1, true)}
		m.put("while")
		s.Expr = asked()
		m.put(";")
	case 4:
		m.put("for", "(")
		s.Op, s.Expr = api.SFor, make([]api.Expr, 3)
		for i, end := range []string{";", ";", ")"} {
			if m.below(2) == 0 {
				s.Expr[i] = m.expr(levelExpr, deep+1)
			}
			m.put(end)
		}
		s.Body = []api.Stmt{m.stmt(deep+1, free)}
	}
}

// Levels of expressions: those of binaries are from 1 to 10.
const (
	levelExpr    = -1
	levelCond    = 0
	levelUnary   = 11
	levelPostfix = 12
)

// expr makes an expression of a level at least that stands so deep.
func (m *maker) expr(level, deep int) api.Expr {
	kind := m.below(13)
	if m.room <= 0 || deep == api.MaxDeep && kind != 4 && kind != 5 {
		return m.leaf()
	}
	switch {
	case kind == 0 && level <= levelExpr:
		return m.assign(deep)
	case kind == 1 && level <= levelCond:
		left := m.expr(1, deep)
		pos := m.put("?")
		yes := m.expr(levelExpr, deep+1)
		m.put(":")
		return api.Expr{Op: api.ECond, Kids: []api.Expr{left, yes, m.expr(levelCond, deep+1)}, Pos: pos}
	case kind <= 5:
		b := binaries()[m.below(len(binaries()))]
		if b.level < level {
			return m.within(deep)
		}
		left := m.expr(b.level, deep)
		pos := m.put(b.sign)
		return api.Expr{Op: opOf(b.op), Kids: []api.Expr{left, m.expr(b.level+1, deep)}, Pos: pos}
	case kind <= 7 && level <= levelUnary:
		return m.unary(deep)
	case kind <= 9:
		return m.postfix(deep)
	case kind == 10:
		return m.within(deep)
	}
	return m.leaf()
}

func opOf(name string) int {
	return slices.Index(exprOps, name)
}

// within makes brackets: at MaxDeep there may be none.
func (m *maker) within(deep int) api.Expr {
	if deep == api.MaxDeep {
		return m.leaf()
	}
	m.put("(")
	e := m.expr(levelExpr, deep+1)
	m.put(")")
	return e
}

func (m *maker) leaf() api.Expr {
	if m.below(2) == 0 {
		pos := len(m.tokens)
		return api.Expr{Op: api.ENum, N: m.number(), Pos: pos}
	}
	name := m.name()
	return api.Expr{Op: api.EName, Name: name, Pos: m.put(name)}
}

func (m *maker) assign(deep int) api.Expr {
	left := m.expr(levelCond, deep)
	i := m.below(11)
	pos := m.put(strings.Fields("= *= /= %= += -= <<= >>= &= ^= |=")[i])
	n := max(0, opOf(strings.Fields("= Mul Div Mod Add Sub Shl Shr And Xor Or")[i]))
	return api.Expr{Op: api.EAssign, N: int64(n), Kids: []api.Expr{left, m.expr(levelExpr, deep+1)}, Pos: pos}
}

func (m *maker) unary(deep int) api.Expr {
	switch i := m.below(9); i {
	case 7:
		e := api.Expr{Op: api.ECast, Pos: m.put("(")}
		e.Type = m.typ()
		m.put(")")
		e.Kids = []api.Expr{m.expr(levelUnary, deep+1)}
		return e
	case 8:
		e := api.Expr{Op: api.ESize, Pos: m.put("sizeof", "(")}
		e.Type = m.typ()
		m.put(")")
		return e
	default:
		e := api.Expr{Op: opOf(strings.Fields("Minus Comp Not Deref Addr PreInc PreDec")[i])}
		e.Pos = m.put(strings.Fields("- ~ ! * & ++ --")[i])
		e.Kids = []api.Expr{m.expr(levelUnary, deep+1)}
		return e
	}
}

func (m *maker) postfix(deep int) api.Expr {
	switch m.below(4) {
	case 0:
		e := api.Expr{Op: api.EIndex, Kids: []api.Expr{m.expr(levelPostfix, deep)}}
		e.Pos = m.put("[")
		e.Kids = append(e.Kids, m.expr(levelExpr, deep+1))
		m.put("]")
		return e
	case 1:
		e := m.expr(levelPostfix, deep)
		return api.Expr{Op: api.EPostInc, Kids: []api.Expr{e}, Pos: m.put("++")}
	case 2:
		e := m.expr(levelPostfix, deep)
		return api.Expr{Op: api.EPostDec, Kids: []api.Expr{e}, Pos: m.put("--")}
	}
	e := api.Expr{Op: api.ECall, Name: m.name()}
	e.Pos = m.put(e.Name)
	m.put("(")
	for i := range m.below(api.MaxParams + 1) {
		if i > 0 {
			m.put(",")
		}
		e.Kids = append(e.Kids, m.expr(levelExpr, deep+1))
	}
	m.put(")")
	return e
}

// layout tells a text of tokens, with so many kinds of blanks, and where each token begins.
func layout(tokens []string, below func(int) int) (string, []int) {
	var s strings.Builder
	var places []int
	for i, token := range tokens {
		n := below(3)
		if i > 0 && n == 0 && mayJoin(tokens[i-1], token) {
			n = 1
		}
		for range n {
			s.WriteByte(" \t\n\r"[below(4)])
		}
		places = append(places, s.Len())
		s.WriteString(token)
	}
	return s.String(), places
}

// mayJoin tells whether two tokens might be others side by side; at times also where they would not.
func mayJoin(a, b string) bool {
	const signs, alone = "<>=+-*/%&|^~!?:;,()[]{}", "~?:;,()[]{}"
	i, j := strings.IndexByte(signs, a[0]) >= 0, strings.IndexByte(signs, b[0]) >= 0
	return i == j && (!i || !strings.Contains(alone, a) && !strings.Contains(alone, b))
}

// some tells units, with a text of each, and a second one with other blanks.
func some(n int, one func(u api.Unit, first, second string, places [][]int)) {
	below := mix(88172645463325252)
	for i := 0; i < n; i++ {
		m := maker{below: below, room: 20 + below(400)}
		u := m.unit()
		first, places := layout(m.tokens, below)
		second, others := layout(m.tokens, below)
		if len(first) > api.MaxText || len(second) > api.MaxText {
			continue
		}
		one(u, first, second, [][]int{places, others})
	}
}

// TestMade is of P3.1 and P3.3: what is made is parsed, and blanks change nothing but where things stand.
func TestMade(t *testing.T) {
	n := 0
	some(1500, func(u api.Unit, first, second string, places [][]int) {
		n++
		for i, s := range []string{first, second} {
			parses(t, s, showUnit(placed(u, func(pos int) int { return places[i][pos] })))
		}
	})
	if n < 500 {
		t.Errorf("%d", n)
	}
}

// TestMadeAgain is P3.2: what is made has a text; parsed it is the same, but for Pos.
func TestMadeAgain(t *testing.T) {
	some(1500, func(u api.Unit, first, _ string, _ [][]int) {
		s, err := parse.Text(u)
		again, f := parse.Parse(s)
		if err != api.OK || f != (api.Fault{}) || showUnplaced(again) != showUnplaced(u) {
			t.Fatalf("%q: %d, %+v:\n%s\n%s", s, err, f, showUnplaced(again), showUnplaced(u))
		}
		if len(s) > len(first) {
			t.Errorf("%q is longer than %q", s, first)
		}
	})
}
