package check

import "gantlet/api"

func (b *body) exprs(l []api.Expr) {
	for i := range l {
		b.expr(&l[i])
	}
}

// expr checks an expression, its kids ahead of it.
func (b *body) expr(e *api.Expr) {
	if e.Op == api.ENone {
		return
	}
	b.nodes++
	b.exprs(e.Kids)
	t, err := b.typeOf(e)
	b.require(err == api.OK, err, e.Pos)
	e.Type = t
}

// typeOf tells an expression's type, and fills in its N.
func (b *body) typeOf(e *api.Expr) (api.Type, api.Errno) {
	switch e.Op {
	case api.ENum:
		return ofNumber(e.N), api.OK
	case api.EName:
		return b.name(e)
	case api.ECall:
		return b.call(e)
	case api.ESize:
		return b.size(e)
	case api.EAddr:
		return address(e.Kids[0])
	case api.EPreInc, api.EPreDec, api.EPostInc, api.EPostDec:
		return stepped(e.Kids[0])
	case api.EAssign:
		return assigned(int(e.N), e.Kids[0], e.Kids[1])
	}
	t, ok := made(*e)
	return ifType(t, ok)
}

// ifType tells a type, or ErrType, if it is none.
func ifType(t api.Type, ok bool) (api.Type, api.Errno) {
	if !ok {
		return api.Type{}, api.ErrType
	}
	return t, api.OK
}

// name seeks a name from the innermost block to the outermost, which is that of the globals.
func (b *body) name(e *api.Expr) (api.Type, api.Errno) {
	for i := len(b.blocks) - 1; i >= 0; i-- {
		if v, there := b.blocks[i][e.Name]; there {
			e.N = v.n
			return v.t, api.OK
		}
	}
	return api.Type{}, api.ErrName
}

func (b *body) call(e *api.Expr) (api.Type, api.Errno) {
	f, there := b.functions[e.Name]
	if !there {
		return api.Type{}, api.ErrName
	}
	e.N = f.n
	ok := len(e.Kids) == len(f.params)
	for i := 0; ok && i < len(f.params); i++ {
		ok = fits(e.Kids[i], f.params[i])
	}
	return ifType(f.ret, ok)
}

// size fills in how many bytes a type has; that type stays the expression's own.
func (b *body) size(e *api.Expr) (api.Type, api.Errno) {
	n, there := b.sizes[e.Type]
	e.N = n
	return ifType(e.Type, there)
}

// isPlace tells whether an expression is something that values may be stored in.
func isPlace(e api.Expr) bool {
	switch e.Op {
	case api.EName:
		return e.Type.Len == 0
	case api.EIndex, api.EDeref:
		return true
	}
	return false
}

func address(of api.Expr) (api.Type, api.Errno) {
	t := of.Type
	switch {
	case !isPlace(of):
		return api.Type{}, api.ErrPlace
	case t.Ptr == maxStars:
		return api.Type{}, api.ErrLimit
	}
	t.Ptr++
	return t, api.OK
}

// stepped tells the type of ++ and -- of an expression.
func stepped(of api.Expr) (api.Type, api.Errno) {
	if !isPlace(of) {
		return api.Type{}, api.ErrPlace
	}
	return ifType(of.Type, isInteger(of.Type) || isUsable(of.Type))
}

// assigned tells the type of an assignment by an op, or (ENone) by none.
func assigned(op int, place, value api.Expr) (api.Type, api.Errno) {
	if !isPlace(place) {
		return api.Type{}, api.ErrPlace
	}
	if op == api.ENone {
		return ifType(place.Type, fits(value, place.Type))
	}
	t, ok := binary(op, place, value)
	return ifType(place.Type, ok && fitsType(t, place.Type))
}

// made tells the type of what an op makes of its operands, if they are such as it takes.
func made(e api.Expr) (api.Type, bool) {
	first := counted(e.Kids[0])
	switch e.Op {
	case api.ECast:
		return e.Type, isInteger(e.Type) && isInteger(first)
	case api.EDeref:
		return target(first)
	case api.EIndex:
		t, ok := target(first)
		return t, ok && isInteger(counted(e.Kids[1]))
	case api.EMinus, api.EComp:
		return promoted(first), isInteger(first)
	case api.ENot:
		return api.Type{Kind: api.TI32}, isTruth(first)
	case api.ECond:
		t, ok := either(e.Kids[1], e.Kids[2])
		return t, ok && isTruth(first)
	}
	return binary(e.Op, e.Kids[0], e.Kids[1])
}

// either tells the type of what is one of two expressions.
func either(a, b api.Expr) (api.Type, bool) {
	x, y := counted(a), counted(b)
	switch {
	case isInteger(x) && isInteger(y):
		return common(x, y), true
	case x == y, fits(b, x):
		return x, true
	}
	return y, fits(a, y)
}

// binary is made of two expressions with an op between.
func binary(op int, a, b api.Expr) (api.Type, bool) {
	x, y := counted(a), counted(b)
	integers := isInteger(x) && isInteger(y)
	truth := api.Type{Kind: api.TI32}
	switch op {
	case api.EShl, api.EShr:
		return promoted(x), integers
	case api.ELand, api.ELor:
		return truth, isTruth(x) && isTruth(y)
	case api.ELt, api.ELe, api.EGt, api.EGe:
		return truth, integers || isPointer(x) && x == y
	case api.EEq, api.ENe:
		return truth, fits(a, y) || fits(b, x)
	case api.EAdd, api.ESub:
		if !integers {
			return moved(op, x, y)
		}
	}
	return common(x, y), integers
}

// moved tells the type of a sum, or of a difference, of two operands that are not both
// integers.
func moved(op int, x, y api.Type) (api.Type, bool) {
	switch {
	case isUsable(x) && isInteger(y):
		return x, true
	case op == api.EAdd:
		return y, isInteger(x) && isUsable(y)
	}
	return api.Type{Kind: api.TI64}, isUsable(x) && x == y
}
