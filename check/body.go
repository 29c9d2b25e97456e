package check

import (
	"slices"

	"gantlet/api"
	"gantlet/num"
)

// body is what is known of a function on the way through it.
type body struct {
	*checker
	ret    api.Type
	locals []api.Decl
	blocks []map[string]variable // those that are open, from the outermost on: the globals
	labels []string
	jumps  []jump
	nodes  int
}

// jump is a goto: whether its label is there is known at the function's end alone.
type jump struct {
	label string
	pos   int
}

// inside is what a statement stands in.
type inside struct {
	loop   bool
	choice *choice // the innermost switch
}

// choice is a switch: the kind of its values, and what has been chosen so far.
type choice struct {
	kind   int
	values []int64
	others bool
}

func (c *checker) bodyOf(f *api.Func) {
	b := body{checker: c, ret: f.Ret, blocks: []map[string]variable{c.globals}}
	b.open()
	for _, d := range f.Params {
		b.add(d)
	}
	b.stmts(f.Body, inside{})
	for _, j := range b.jumps {
		b.require(slices.Contains(b.labels, j.label), api.ErrName, j.pos)
	}
	b.require(b.nodes <= api.MaxNodes, api.ErrLimit, f.Pos)
	f.Locals = b.locals
}

func (b *body) open() {
	b.blocks = append(b.blocks, map[string]variable{})
}

func (b *body) shut() {
	b.blocks = b.blocks[:len(b.blocks)-1]
}

func (b *body) innermost() map[string]variable {
	return b.blocks[len(b.blocks)-1]
}

// add adds a local to the innermost block, and tells its place.
func (b *body) add(d api.Decl) int64 {
	place := int64(len(b.locals))
	b.locals = append(b.locals, d)
	b.innermost()[d.Name] = variable{d.Type, place}
	return place
}

func (b *body) stmts(l []api.Stmt, in inside) {
	for i := range l {
		b.stmt(&l[i], in)
	}
}

func (b *body) stmt(s *api.Stmt, in inside) {
	b.nodes++
	switch s.Op {
	case api.SExpr:
		b.exprs(s.Expr)
	case api.SDecl:
		b.local(s)
	case api.SBlock:
		b.open()
		b.stmts(s.Body, in)
		b.shut()
	case api.SIf, api.SWhile, api.SDo, api.SFor, api.SSwitch:
		b.holding(s, in)
	case api.SCase:
		b.value(s, in.choice)
	case api.SDefault:
		b.others(s, in.choice)
	case api.SBreak:
		b.require(in.loop || in.choice != nil, api.ErrPlace, s.Pos)
	case api.SContinue:
		b.require(in.loop, api.ErrPlace, s.Pos)
	case api.SReturn:
		b.returned(s)
	case api.SGoto:
		b.jumps = append(b.jumps, jump{s.Name, s.Pos})
	case api.SLabel:
		b.require(!slices.Contains(b.labels, s.Name), api.ErrName, s.Pos)
		b.labels = append(b.labels, s.Name)
	}
}

// local adds the local that is declared only once its Expr is checked, which does not see it.
func (b *body) local(s *api.Stmt) {
	b.exprs(s.Expr)
	_, there := b.innermost()[s.Name]
	b.require(!there, api.ErrName, s.Pos)
	b.require(mayBeDeclared(s.Type), api.ErrType, s.Pos)
	for _, e := range s.Expr {
		b.require(fits(e, s.Type), api.ErrType, e.Pos)
	}
	b.require(len(b.locals) < api.MaxLocals, api.ErrLimit, s.Pos)
	s.N = b.add(api.Decl{Name: s.Name, Type: s.Type, Pos: s.Pos})
}

// holding checks a statement that holds another one, in the order in which its parts stand.
func (b *body) holding(s *api.Stmt, in inside) {
	switch s.Op {
	case api.SIf:
		b.condition(&s.Expr[0])
	case api.SWhile:
		in.loop = true
		b.condition(&s.Expr[0])
	case api.SDo:
		in.loop = true
	case api.SFor:
		in.loop = true
		b.expr(&s.Expr[0])
		if s.Expr[1].Op != api.ENone {
			b.condition(&s.Expr[1])
		}
		b.expr(&s.Expr[2])
	case api.SSwitch:
		in.choice = b.choose(&s.Expr[0])
	}
	b.stmts(s.Body, in)
	if s.Op == api.SDo {
		b.condition(&s.Expr[0])
	}
}

func (b *body) condition(e *api.Expr) {
	b.expr(e)
	b.require(isTruth(counted(*e)), api.ErrType, e.Pos)
}

// choose checks what a switch chooses by.
func (b *body) choose(e *api.Expr) *choice {
	b.expr(e)
	t := counted(*e)
	b.require(isInteger(t), api.ErrType, e.Pos)
	return &choice{kind: promoted(t).Kind}
}

// value checks a case. Two of them are the same, if they are so as the switch's type has them.
func (b *body) value(s *api.Stmt, of *choice) {
	if of == nil {
		b.fail(api.ErrPlace, s.Pos)
		return
	}
	n, err := num.Fit(of.kind, s.N)
	b.require(err == api.OK && !slices.Contains(of.values, n), api.ErrName, s.Pos)
	of.values = append(of.values, n)
}

func (b *body) others(s *api.Stmt, of *choice) {
	if of == nil {
		b.fail(api.ErrPlace, s.Pos)
		return
	}
	b.require(!of.others, api.ErrName, s.Pos)
	of.others = true
}

func (b *body) returned(s *api.Stmt) {
	b.exprs(s.Expr)
	for _, e := range s.Expr {
		b.require(fits(e, b.ret), api.ErrType, e.Pos)
	}
	void := b.ret == api.Type{}
	b.require(void || len(s.Expr) > 0, api.ErrType, s.Pos)
}
