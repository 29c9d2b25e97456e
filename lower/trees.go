package lower

import (
	"gantlet/api"
	"gantlet/checked"
	"gantlet/num"
)

// loads are the ops that load numbers of each kind.
var loads = [...]int{
	api.TI8:  api.RLoad8,
	api.TU8:  api.RLoadU8,
	api.TI16: api.RLoad16,
	api.TU16: api.RLoadU16,
	api.TI32: api.RLoad32,
	api.TU32: api.RLoadU32,
	api.TI64: api.RLoad64,
	api.TU64: api.RLoad64,
}

// narrows are the ops that bring numbers to each kind of less than 64 bits.
var narrows = [...]int{
	api.TI8:  api.RExt8,
	api.TU8:  api.RZext8,
	api.TI16: api.RExt16,
	api.TU16: api.RZext16,
	api.TI32: api.RExt32,
	api.TU32: api.RZext32,
}

func con(n int64) api.Tree {
	return api.Tree{Op: api.RCon, N: n}
}

func leaf(op, n int) api.Tree {
	return api.Tree{Op: op, N: int64(n)}
}

// pair tells an op of two trees; of two numbers what it makes of them, and of a place that is
// moved by 0 that place.
func pair(op int, a, b api.Tree) api.Tree {
	if a.Op == api.RCon && b.Op == api.RCon {
		if n, err := num.Bin(op, a.N, b.N); err == api.OK {
			return con(n)
		}
	}
	if op == api.RAdd && b.Op == api.RCon && b.N == 0 {
		return a
	}
	return api.Tree{Op: op, Kids: []api.Tree{a, b}}
}

// loaded tells what is at a place of an element of a type.
func loaded(t api.Type, at api.Tree) api.Tree {
	op := api.RLoad64
	if !checked.IsPointer(t) {
		op = loads[t.Kind]
	}
	return api.Tree{Op: op, Kids: []api.Tree{at}}
}

// fitted tells the lowest bits of a number as one of a kind.
func fitted(kind int, t api.Tree) api.Tree {
	if t.Op == api.RCon {
		return con(checked.Fit(kind, t.N))
	}
	if checked.Bits(kind) == 64 {
		return t
	}
	return api.Tree{Op: narrows[kind], Kids: []api.Tree{t}}
}

// operand is a value, and the type as which it counts.
type operand struct {
	t    api.Type
	tree api.Tree
}

// converted tells an operand as one of another type.
func converted(to api.Type, v operand) api.Tree {
	if checked.IsPointer(to) || holdsAll(to.Kind, v.t.Kind) {
		return v.tree
	}
	return fitted(to.Kind, v.tree)
}

// holdsAll tells whether all numbers of one kind have the same bits as ones of another.
func holdsAll(kind, from int) bool {
	wide, narrow := checked.Bits(kind), checked.Bits(from)
	switch {
	case wide == 64:
		return true
	case checked.Signed(kind) == checked.Signed(from):
		return wide >= narrow
	}
	return checked.Signed(kind) && wide > narrow
}

// size tells how many nodes a tree has.
func size(t api.Tree) int {
	n := 1
	for _, k := range t.Kids {
		n += size(k)
	}
	return n
}

// negated tells 0 less a number.
func negated(t api.Tree) api.Tree {
	return pair(api.RSub, con(0), t)
}

// ofOne tells an op of one operand, of which a number of a type comes.
func ofOne(op int, t api.Type, v operand) api.Tree {
	switch op {
	case api.EMinus:
		return fitted(t.Kind, negated(converted(t, v)))
	case api.EComp:
		return pair(api.RXor, converted(t, v), con(checked.Fit(t.Kind, -1)))
	case api.ENot:
		return pair(api.REq, v.tree, con(0))
	}
	return converted(t, v)
}

// ofTwo tells an op of two operands. What a comparison tells counts as a number of any kind.
func ofTwo(op int, a, b operand) operand {
	p, q := checked.IsPointer(a.t), checked.IsPointer(b.t)
	long := api.Type{Kind: api.TI64}
	switch {
	case p && op == api.EAdd:
		return operand{a.t, pair(api.RAdd, a.tree, scaled(a.t, b.tree))}
	case q && op == api.EAdd:
		return operand{b.t, pair(api.RAdd, b.tree, scaled(b.t, a.tree))}
	case p && op == api.ESub && !q:
		return operand{a.t, back(a.tree, scaled(a.t, b.tree))}
	case p && op == api.ESub:
		return operand{long, pair(api.RSar, pair(api.RSub, a.tree, b.tree), shiftOf(a.t))}
	case p || q:
		return operand{long, turned(op, api.TI64, a.tree, b.tree)}
	case op == api.EShl || op == api.EShr:
		return shifted(op, checked.Promoted(a.t), a, b)
	}
	t := api.Type{Kind: checked.Common(a.t, b.t)}
	v := turned(op, t.Kind, converted(t, a), converted(t, b))
	switch op {
	case api.EAdd, api.ESub, api.EMul, api.EDiv:
		// What the others tell of two numbers of a kind is one of that kind.
		v = fitted(t.Kind, v)
	}
	return operand{t, v}
}

// turned tells an op of two trees that are numbers of a kind, or pointers.
func turned(op, kind int, a, b api.Tree) api.Tree {
	if checked.IsTurned(op) {
		a, b = b, a
	}
	return pair(checked.Op(op, kind), a, b)
}

// shifted tells a number of a kind shifted by a count, which is taken modulo its bits; num takes
// it modulo 64.
func shifted(op, kind int, a, b operand) operand {
	t, count := api.Type{Kind: kind}, b.tree
	if bits := checked.Bits(kind); bits < 64 {
		count = pair(api.RAnd, count, con(bits-1))
	}
	v := pair(checked.Op(op, kind), converted(t, a), count)
	if op == api.EShl {
		v = fitted(kind, v)
	}
	return operand{t, v}
}

// shiftOf tells by how much an index of a pointer is shifted to be one of bytes.
func shiftOf(t api.Type) api.Tree {
	by := int64(0)
	for 1<<by < checked.Bytes(checked.Target(t)) {
		by++
	}
	return con(by)
}

// scaled tells how many bytes so many elements of a pointer are.
func scaled(t api.Type, n api.Tree) api.Tree {
	by := shiftOf(t)
	if by.N == 0 {
		return n
	}
	return pair(api.RShl, n, by)
}

// back tells a place moved back by so many bytes.
func back(place, by api.Tree) api.Tree {
	if by.Op == api.RCon {
		return pair(api.RAdd, place, negated(by))
	}
	return pair(api.RSub, place, by)
}
