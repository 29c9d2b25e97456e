package parse

import "gantlet/api"

// block reads a block that stands so deep, or the statement that it is.
func (p *parser) block(deep int) []api.Stmt {
	var l []api.Stmt
	p.need("{")
	for !p.is("}") && p.token().Kind != api.KEnd {
		l = append(l, p.stmt(deep+1))
	}
	p.need("}")
	return l
}

func (p *parser) stmt(deep int) api.Stmt {
	p.begin(deep)
	s := api.Stmt{Pos: p.token().Pos}
	if !p.short(&s, deep) && !p.holding(&s, deep) {
		p.wordless(&s, deep)
	}
	return s
}

// wordless reads a statement that has no word of its own.
func (p *parser) wordless(s *api.Stmt, deep int) {
	t := p.token()
	switch {
	case t.Kind == api.KName && p.second().Text == ":":
		s.Op, s.Name = api.SLabel, p.next().Text
		p.need(":")
	case beginsType(t):
		p.local(s, deep)
	case p.is("{"):
		s.Op, s.Body = api.SBlock, p.block(deep)
	case p.accept(";"):
		s.Op = api.SEmpty
	default:
		s.Op, s.Expr = api.SExpr, p.told(deep)
	}
}

func (p *parser) local(s *api.Stmt, deep int) {
	s.Op, s.Type = api.SDecl, p.typeOf()
	s.Name = p.name().Text
	s.Type.Len = p.length()
	if s.Type.Len == 0 && p.accept("=") {
		s.Expr = p.told(deep)
		return
	}
	p.need(";")
}

// told reads expr ";" of a statement.
func (p *parser) told(deep int) []api.Expr {
	e := p.expr(deep + 1)
	p.need(";")
	return []api.Expr{e}
}

// short reads a statement that has a word and holds no other one, if one begins here.
func (p *parser) short(s *api.Stmt, deep int) bool {
	end := ";"
	switch {
	case p.accept("case"):
		s.Op, s.N, end = api.SCase, p.value(), ":"
	case p.accept("default"):
		s.Op, end = api.SDefault, ":"
	case p.accept("break"):
		s.Op = api.SBreak
	case p.accept("continue"):
		s.Op = api.SContinue
	case p.accept("goto"):
		s.Op, s.Name = api.SGoto, p.name().Text
	case p.accept("return"):
		s.Op = api.SReturn
		if !p.is(";") {
			s.Expr = []api.Expr{p.expr(deep + 1)}
		}
	default:
		return false
	}
	p.need(end)
	return true
}

// holding reads a statement that holds another one, if one begins here.
func (p *parser) holding(s *api.Stmt, deep int) bool {
	switch {
	case p.accept("if"):
		s.Op, s.Expr = api.SIf, p.asked(deep)
		s.Body = p.body(deep)
		if p.accept("else") {
			s.Body = append(s.Body, p.stmt(deep+1))
		}
	case p.accept("while"):
		s.Op, s.Expr = api.SWhile, p.asked(deep)
		s.Body = p.body(deep)
	case p.accept("switch"):
		s.Op, s.Expr = api.SSwitch, p.asked(deep)
		s.Body = p.body(deep)
	case p.accept("for"):
		s.Op, s.Expr = api.SFor, p.course(deep)
		s.Body = p.body(deep)
	case p.accept("do"):
		s.Op, s.Body = api.SDo, p.body(deep)
		p.need("while")
		s.Expr = p.asked(deep)
		p.need(";")
	default:
		return false
	}
	return true
}

// body reads the statement that one of so deep holds.
func (p *parser) body(deep int) []api.Stmt {
	return []api.Stmt{p.stmt(deep + 1)}
}

// asked reads "(" expr ")" of a statement.
func (p *parser) asked(deep int) []api.Expr {
	return []api.Expr{p.within(deep + 1)}
}

// course reads what a for has between its brackets; what is left out stays ENone.
func (p *parser) course(deep int) []api.Expr {
	l := make([]api.Expr, 3)
	p.need("(")
	for i, end := range [...]string{";", ";", ")"} {
		if !p.is(end) {
			l[i] = p.expr(deep + 1)
		}
		p.need(end)
	}
	return l
}
