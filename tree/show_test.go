package tree_test

import (
	"math"
	"slices"
	"strconv"
	"strings"
	"testing"

	"gantlet/api"
	"gantlet/tree"
)

const (
	least = math.MinInt64
	most  = math.MaxInt64
)

// kind is what is to be told of an op: its word, and how many kids it has.
type kind struct {
	op   int
	word string
	kids int
}

var kinds = []kind{
	{api.RCon, "con", 0}, {api.RTmp, "tmp", 0}, {api.RLoc, "loc", 0}, {api.RGlo, "glo", 0},
	{api.RLoad8, "load8", 1}, {api.RLoad16, "load16", 1}, {api.RLoad32, "load32", 1}, {api.RLoad64, "load64", 1},
	{api.RLoadU8, "loadu8", 1}, {api.RLoadU16, "loadu16", 1}, {api.RLoadU32, "loadu32", 1},
	{api.RAdd, "add", 2}, {api.RSub, "sub", 2}, {api.RMul, "mul", 2},
	{api.RDiv, "div", 2}, {api.RDivU, "divu", 2}, {api.RRem, "rem", 2}, {api.RRemU, "remu", 2},
	{api.RAnd, "and", 2}, {api.ROr, "or", 2}, {api.RXor, "xor", 2},
	{api.RShl, "shl", 2}, {api.RShr, "shr", 2}, {api.RSar, "sar", 2},
	{api.REq, "eq", 2}, {api.RNe, "ne", 2}, {api.RLt, "lt", 2}, {api.RLtU, "ltu", 2}, {api.RLe, "le", 2}, {api.RLeU, "leu", 2},
	{api.RExt8, "ext8", 1}, {api.RExt16, "ext16", 1}, {api.RExt32, "ext32", 1},
	{api.RZext8, "zext8", 1}, {api.RZext16, "zext16", 1}, {api.RZext32, "zext32", 1},
}

// kindOf tells what is to be told of an op; of none there are -1 kids.
func kindOf(op int) kind {
	for _, k := range kinds {
		if k.op == op {
			return k
		}
	}
	return kind{op: op, kids: -1}
}

func con(n int64) api.Tree { return api.Tree{Op: api.RCon, N: n} }

// of is a tree of an op and kids.
func of(op int, kids ...api.Tree) api.Tree {
	return api.Tree{Op: op, Kids: slices.Clone(kids)}
}

// filled is a tree of an op with as many kids as it has, all the same.
func filled(op int, kid api.Tree) api.Tree {
	t := api.Tree{Op: op}
	for range kindOf(op).kids {
		t.Kids = append(t.Kids, copyOf(kid))
	}
	return t
}

// copyOf shares no memory with t.
func copyOf(t api.Tree) api.Tree {
	var kids []api.Tree
	for _, k := range t.Kids {
		kids = append(kids, copyOf(k))
	}
	return api.Tree{Op: t.Op, N: t.N, Kids: kids}
}

// show tells all of a tree, whether it may be or not; a nil list and an empty one are one.
func show(t api.Tree) string {
	var kids []string
	for _, k := range t.Kids {
		kids = append(kids, show(k))
	}
	return strconv.Itoa(t.Op) + ":" + strconv.FormatInt(t.N, 10) + "[" + strings.Join(kids, " ") + "]"
}

// textOf tells what Text is to tell of a tree that may be.
func textOf(t api.Tree) string {
	k := kindOf(t.Op)
	if k.kids == 0 {
		return k.word + "(" + strconv.FormatInt(t.N, 10) + ")"
	}
	var kids []string
	for _, kid := range t.Kids {
		kids = append(kids, textOf(kid))
	}
	return k.word + "(" + strings.Join(kids, ", ") + ")"
}

// nodesIn tells each node of a tree.
func nodesIn(t *api.Tree) []*api.Tree {
	l := []*api.Tree{t}
	for i := range t.Kids {
		l = append(l, nodesIn(&t.Kids[i])...)
	}
	return l
}

func nodesOf(t api.Tree) int {
	n := 1
	for _, k := range t.Kids {
		n += nodesOf(k)
	}
	return n
}

// pureOf tells what Pure is to tell of a tree that may be.
func pureOf(t api.Tree) bool {
	k := kindOf(t.Op)
	if strings.HasPrefix(k.word, "load") || k.word == "tmp" || k.word == "loc" || k.word == "glo" {
		return false
	}
	return !slices.ContainsFunc(t.Kids, func(k api.Tree) bool { return !pureOf(k) })
}

// isTaken holds that a tree may be, and all but its value that is told of it.
func isTaken(t *testing.T, x api.Tree) {
	t.Helper()
	if err := tree.Check(x); err != api.OK {
		t.Errorf("Check(%s): %d", show(x), err)
	}
	if n, err := tree.Size(x); n != nodesOf(x) || err != api.OK {
		t.Errorf("Size(%s): %d, %d; should be %d", show(x), n, err, nodesOf(x))
	}
	pure, err := tree.Pure(x)
	if pure != pureOf(x) || err != api.OK {
		t.Errorf("Pure(%s): %v, %d; should be %v", show(x), pure, err, pureOf(x))
	}
	if n, err := tree.Eval(x); !pureOf(x) && (n != 0 || err != api.ErrForm) || pureOf(x) && err != api.OK {
		t.Errorf("Eval(%s): %d, %d", show(x), n, err)
	}
	text, err := tree.Text(x)
	if text != textOf(x) || err != api.OK {
		t.Errorf("Text(%s): %q, %d; should be %q", show(x), text, err, textOf(x))
	}
	if y, err := tree.Parse(text); show(y) != show(x) || err != api.OK {
		t.Errorf("Parse(%q): %s, %d; should be %s", text, show(y), err, show(x))
	}
}

// isRefused holds that a tree may not be, for each call, and that nothing is told beside.
func isRefused(t *testing.T, what string, x api.Tree) {
	t.Helper()
	if err := tree.Check(x); err != api.ErrForm {
		t.Errorf("Check(%s): %d", what, err)
	}
	if n, err := tree.Size(x); n != 0 || err != api.ErrForm {
		t.Errorf("Size(%s): %d, %d", what, n, err)
	}
	if pure, err := tree.Pure(x); pure || err != api.ErrForm {
		t.Errorf("Pure(%s): %v, %d", what, pure, err)
	}
	if n, err := tree.Eval(x); n != 0 || err != api.ErrForm {
		t.Errorf("Eval(%s): %d, %d", what, n, err)
	}
	if s, err := tree.Text(x); s != "" || err != api.ErrForm {
		t.Errorf("Text(%s): %q, %d", what, s, err)
	}
}

// mix tells numbers from 0 to below n, without any order that is to be seen, the same each time.
func mix(seed uint64) func(n int) int {
	return func(n int) int {
		seed ^= seed << 13
		seed ^= seed >> 7
		seed ^= seed << 17
		return int(seed >> 11 % uint64(n))
	}
}

// edges are numbers at which widths, signs and counts of shifts turn.
var edges = []int64{
	0, 1, 2, 3, 7, 8, 9, 10, 31, 32, 33, 62, 63, 64, 65, 127, 128, 129, 255, 256, 257, 32767, 32768, 65535, 65536,
	math.MaxInt32, math.MaxInt32 + 1, math.MaxUint32, math.MaxUint32 + 1, most - 1, most,
	-1, -2, -3, -7, -8, -63, -64, -65, -128, -129, -255, -256, -32768, -32769, -65536, math.MinInt32, math.MinInt32 - 1, -math.MaxUint32 - 1, least + 1, least,
}

// made makes a tree of just so many nodes, of ops for which may holds.
func made(below func(int) int, nodes int, may func(k kind) bool) api.Tree {
	kids := min(nodes-1, 2)
	if kids == 2 && below(3) == 0 {
		kids = 1
	}
	var l []kind
	for _, k := range kinds {
		if k.kids == kids && may(k) {
			l = append(l, k)
		}
	}
	t := api.Tree{Op: l[below(len(l))].op}
	switch kids {
	case 0:
		t.N = edges[below(len(edges))]
		if t.Op != api.RCon {
			t.N &= most
		}
	case 1:
		t.Kids = []api.Tree{made(below, nodes-1, may)}
	case 2:
		left := 1 + below(nodes-2)
		t.Kids = []api.Tree{made(below, left, may), made(below, nodes-1-left, may)}
	}
	return t
}

func isAny(kind) bool { return true }

// isPure holds of the ops that stand in pure trees.
func isPure(k kind) bool { return pureOf(api.Tree{Op: k.op}) }
