package parse

import "gantlet/api"

// An expr, and a cond, begins with a unary that is as deep; so unary alone says how deep
// what begins is.

func (p *parser) expr(deep int) api.Expr {
	left := p.cond(deep)
	t, m := p.sign(levelAssign)
	if m.op == api.ENone {
		return left
	}
	return api.Expr{Op: m.op, N: m.n, Kids: []api.Expr{left, p.expr(deep + 1)}, Pos: t.Pos}
}

// sign reads a sign that has a meaning at a level, if one is next.
func (p *parser) sign(level int) (api.Token, meaning) {
	t := p.token()
	m := p.meanings[place{level, t.Text}]
	if m.op != api.ENone {
		p.next()
	}
	return t, m
}

func (p *parser) cond(deep int) api.Expr {
	asked := p.binary(levelLor, deep)
	t, m := p.sign(levelCond)
	if m.op == api.ENone {
		return asked
	}
	yes := p.expr(deep + 1)
	p.need(":")
	no := p.cond(deep + 1)
	return api.Expr{Op: m.op, Kids: []api.Expr{asked, yes, no}, Pos: t.Pos}
}

// binary reads the ops of a level, each from the left, and all that is tighter.
func (p *parser) binary(level, deep int) api.Expr {
	if level == levelUnary {
		return p.unary(deep)
	}
	left := p.binary(level+1, deep)
	for t, m := p.sign(level); m.op != api.ENone; t, m = p.sign(level) {
		left = api.Expr{Op: m.op, Kids: []api.Expr{left, p.binary(level+1, deep)}, Pos: t.Pos}
	}
	return left
}

func (p *parser) unary(deep int) api.Expr {
	p.begin(deep)
	if t, m := p.sign(levelUnary); m.op != api.ENone {
		return api.Expr{Op: m.op, Kids: []api.Expr{p.unary(deep + 1)}, Pos: t.Pos}
	}
	pos := p.token().Pos
	switch {
	case p.is("(") && beginsType(p.second()):
		t := p.typeWithin()
		return api.Expr{Op: api.ECast, Type: t, Kids: []api.Expr{p.unary(deep + 1)}, Pos: pos}
	case p.accept("sizeof"):
		return api.Expr{Op: api.ESize, Type: p.typeWithin(), Pos: pos}
	}
	return p.postfix(deep)
}

// typeWithin reads "(" type ")".
func (p *parser) typeWithin() api.Type {
	p.need("(")
	t := p.typeOf()
	p.need(")")
	return t
}

func (p *parser) postfix(deep int) api.Expr {
	e := p.primary(deep)
	for t, m := p.sign(levelPostfix); m.op != api.ENone; t, m = p.sign(levelPostfix) {
		kids := []api.Expr{e}
		if m.op == api.EIndex {
			kids = append(kids, p.expr(deep+1))
			p.need("]")
		}
		e = api.Expr{Op: m.op, Kids: kids, Pos: t.Pos}
	}
	return e
}

func (p *parser) primary(deep int) api.Expr {
	t := p.token()
	switch {
	case t.Kind == api.KNum:
		p.next()
		return api.Expr{Op: api.ENum, N: t.N, Pos: t.Pos}
	case t.Kind == api.KName && p.second().Text == "(":
		p.next()
		return api.Expr{Op: api.ECall, Name: t.Text, Kids: p.arguments(deep + 1), Pos: t.Pos}
	case t.Kind == api.KName:
		p.next()
		return api.Expr{Op: api.EName, Name: t.Text, Pos: t.Pos}
	case t.Text == "(":
		return p.within(deep + 1)
	}
	p.refuse()
	return api.Expr{}
}

// within reads "(" expr ")".
func (p *parser) within(deep int) api.Expr {
	p.need("(")
	e := p.expr(deep)
	p.need(")")
	return e
}

func (p *parser) arguments(deep int) []api.Expr {
	p.need("(")
	if p.accept(")") {
		return nil
	}
	l := several(p, func() api.Expr { return p.expr(deep) })
	p.need(")")
	return l
}
