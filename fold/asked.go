package fold

import "gantlet/api"

// How much is asked of a tree: so many of the lowest bits, from 1 to whole, of what must be a number,
// as else that which asks for it would be stuck; or value, a number or a place as it is.
const (
	whole = 64
	value = whole + 1

	countBits = 6 // of a shift's count
)

// task is a tree, and how much is asked of it.
type task struct {
	of    label
	asked int
}

// folder makes trees smaller.
type folder struct {
	forest
	done   map[task]label
	loadOf map[shape]int
	cutOf  map[shape]int
}

func newFolder() *folder {
	return &folder{newForest(), map[task]label{}, opsOf(loads), opsOf(cuts)}
}

// fold tells a tree, with no more nodes, that tells as much as is asked of l wherever l tells it.
func (f *folder) fold(l label, asked int) label {
	if asked == value && f.isNumber(l) {
		asked = whole
	}
	t := task{l, asked}
	if f.done[t] == none {
		f.done[t] = f.folded(f.of(l).node, asked)
	}
	return f.done[t]
}

func (f *folder) folded(n node, asked int) label {
	switch {
	case n.op == api.RCon:
		return f.con(lowest(n.n, asked))
	case loads.has(n.op):
		return f.one(n.op, f.fold(n.kids[0], value))
	case cuts.has(n.op) && asked <= shapes[n.op].bits:
		return f.fold(n.kids[0], asked)
	case cuts.has(n.op):
		return f.cut(n.op, f.fold(n.kids[0], shapes[n.op].bits))
	case n.kids[0] == none:
		return f.label(n)
	}
	a, b := f.operands(n, asked)
	return f.pair(n.op, a, b, asked)
}

// operands tells the folded kids of an op of two.
func (f *folder) operands(n node, asked int) (label, label) {
	a, b := n.kids[0], n.kids[1]
	switch n.op {
	case api.RAdd:
		return f.both(a, b, asked)
	case api.RMul, api.ROr, api.RXor:
		return f.both(a, b, min(asked, whole))
	case api.RAnd:
		return f.masked(a, b, min(asked, whole))
	case api.RShl, api.RShr, api.RSar:
		by := f.fold(b, countBits)
		return f.fold(a, f.beforeShift(n.op, by, min(asked, whole))), by
	case api.RSub:
		return f.known(n.op, a, b, asked)
	}
	if compares.has(n.op) {
		return f.known(n.op, a, b, whole)
	}
	return f.both(a, b, whole)
}

func (f *folder) both(a, b label, asked int) (label, label) {
	return f.fold(a, asked), f.fold(b, asked)
}

// masked tells the kids of an and: of the one no more bits are asked than the other one may have.
func (f *folder) masked(a, b label, asked int) (label, label) {
	x, y := f.both(a, b, asked)
	w, v := f.of(x).span.width(), f.of(y).span.width()
	if w < v {
		return x, f.fold(b, max(1, min(asked, w)))
	}
	return f.fold(a, max(1, min(asked, v))), y
}

// beforeShift tells how many bits are asked of what is shifted.
func (f *folder) beforeShift(op int, by label, asked int) int {
	n, ok := f.constant(by)
	switch {
	case !ok && op == api.RShl:
		return asked
	case !ok:
		return whole
	case op == api.RShl:
		return max(1, asked-int(n&63))
	}
	return min(whole, asked+int(n&63))
}

// known tells the kids of an op that two places may stand at: where they must be numbers, no more is
// asked than that.
func (f *folder) known(op int, a, b label, asked int) (label, label) {
	x, y := f.both(a, b, value)
	if f.areNumbers(op, x, y, asked) {
		return f.both(a, b, min(asked, whole))
	}
	return x, y
}

// areNumbers tells whether two kids of such an op are numbers wherever it tells what is asked.
func (f *folder) areNumbers(op int, a, b label, asked int) bool {
	p, q := f.isNumber(a), f.isNumber(b)
	switch {
	case p && q:
		return true
	case matches.has(op):
		// A place may be held against 0.
		return p && !f.mayBeZero(a) || q && !f.mayBeZero(b)
	case op == api.RSub && asked == value:
		return p
	}
	return p || q
}

func (f *folder) mayBeZero(l label) bool {
	return f.of(l).span.holds(span{0, 0})
}
