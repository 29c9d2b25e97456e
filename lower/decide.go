package lower

import (
	"cmp"
	"slices"

	"gantlet/api"
	"gantlet/checked"
)

// branch goes on with one block or another one, as an expression is not 0, or is.
func (f *maker) branch(e api.Expr, yes, no int) {
	switch e.Op {
	case api.ENot:
		f.branch(e.Kids[0], no, yes)
	case api.ELand:
		second := f.block()
		f.branch(e.Kids[0], second, no)
		f.begin(second)
		f.branch(e.Kids[1], yes, no)
	case api.ELor:
		second := f.block()
		f.branch(e.Kids[0], yes, second)
		f.begin(second)
		f.branch(e.Kids[1], yes, no)
	default:
		f.fork(f.tell(e), yes, no)
	}
}

// decided tells && and || as a number.
func (f *maker) decided(e api.Expr) api.Tree {
	to := f.temp()
	yes, end := f.block(), f.block()
	f.set(to, con(0))
	f.branch(e, yes, end)
	f.begin(yes)
	f.set(to, con(1))
	f.begin(end)
	return leaf(api.RTmp, to)
}

// perhaps makes what && and || change, whose value is not asked.
func (f *maker) perhaps(e api.Expr) {
	second, end := f.block(), f.block()
	if e.Op == api.ELand {
		f.branch(e.Kids[0], second, end)
	} else {
		f.branch(e.Kids[0], end, second)
	}
	f.begin(second)
	f.do(e.Kids[1])
	f.begin(end)
}

// either tells one of two values.
func (f *maker) either(e api.Expr) api.Tree {
	to := f.temp()
	f.split(e, func(kid api.Expr) { f.set(to, f.as(e.Type, kid)) })
	return leaf(api.RTmp, to)
}

// oneOf makes what one of two expressions changes, whose value is not asked.
func (f *maker) oneOf(e api.Expr) {
	f.split(e, f.do)
}

// split makes something of the second or of the third part of an expression, as the first one is
// not 0, or is.
func (f *maker) split(e api.Expr, of func(kid api.Expr)) {
	yes, no, end := f.block(), f.block(), f.block()
	f.branch(e.Kids[0], yes, no)
	f.begin(yes)
	of(e.Kids[1])
	f.jump(end)
	f.begin(no)
	of(e.Kids[2])
	f.begin(end)
}

// option is a case of a switch: its value, and the move that it leads to.
type option struct {
	value int64
	move  int
}

// cases tells those of a switch, the least value ahead.
func (f *maker) cases(m checked.Move) []option {
	var l []option
	for k, at := range f.row.Marks {
		if k.What == checked.AtCase && k.Of == m.To.Of {
			l = append(l, option{k.Value, at})
		}
	}
	signed := checked.Signed(kindOf(m))
	slices.SortFunc(l, func(a, b option) int {
		if signed {
			return cmp.Compare(a.value, b.value)
		}
		return cmp.Compare(uint64(a.value), uint64(b.value))
	})
	return l
}

// kindOf tells of which kind a switch's values are.
func kindOf(m checked.Move) int {
	return checked.Promoted(checked.Counted(m.Expr))
}

// others tells the move that a switch leads to where no case has its value.
func (f *maker) others(m checked.Move) int {
	if at, there := f.row.Marks[checked.Mark{What: checked.AtDefault, Of: m.To.Of}]; there {
		return at
	}
	return f.row.Marks[m.To]
}

// choose goes on where a switch leads to.
func (f *maker) choose(m checked.Move) {
	kind := kindOf(m)
	v := f.as(api.Type{Kind: kind}, m.Expr)
	if len(v.Kids) > 0 {
		v = f.keep(v)
	}
	f.seek(v, checked.Op(api.ELt, kind), f.cases(m), f.leads[f.others(m)])
}

// seek goes on with the case of a value, else with other. Of many cases one half is left out at
// once, as what is made of a switch may not take many more steps than the switch.
func (f *maker) seek(v api.Tree, less int, l []option, other int) {
	if len(l) > few {
		half := len(l) / 2
		low, high := f.block(), f.block()
		f.fork(pair(less, v, con(l[half].value)), low, high)
		f.begin(low)
		f.seek(v, less, l[:half], other)
		f.begin(high)
		f.seek(v, less, l[half:], other)
		return
	}
	for _, c := range l {
		next := f.block()
		f.fork(pair(api.REq, v, con(c.value)), f.leads[c.move], next)
		f.begin(next)
	}
	f.jump(other)
}
