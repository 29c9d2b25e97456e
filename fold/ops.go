package fold

import "gantlet/api"

// ops is a set of ops: bit 1 << op stands for each of them.
type ops uint64

const (
	loads    ops = 1<<(api.RLoadU32+1) - 1<<api.RLoad8
	cuts     ops = 1<<(api.RZext32+1) - 1<<api.RExt8
	compares ops = 1<<(api.RLeU+1) - 1<<api.REq
	matches  ops = 1<<api.REq | 1<<api.RNe

	// symmetric are those that tell the same with their kids turned.
	symmetric = 1<<api.RAdd | 1<<api.RMul | 1<<api.RAnd | 1<<api.ROr | 1<<api.RXor | matches
)

// has tells whether an op, which is one of trees, is in a set.
func (s ops) has(op int) bool {
	return s>>op&1 == 1
}

// shape is that of the numbers that a load finds, or a cut leaves.
type shape struct {
	bits   int
	signed bool
}

// shapes are those of loads and cuts; all others have the zero shape.
var shapes = [...]shape{
	api.RLoad8:   {8, true},
	api.RLoad16:  {16, true},
	api.RLoad32:  {32, true},
	api.RLoad64:  {64, true},
	api.RLoadU8:  {8, false},
	api.RLoadU16: {16, false},
	api.RLoadU32: {32, false},
	api.RExt8:    {8, true},
	api.RExt16:   {16, true},
	api.RExt32:   {32, true},
	api.RZext8:   {8, false},
	api.RZext16:  {16, false},
	api.RZext32:  {32, false},
}

// opsOf tells the op of each shape, among those of a set.
func opsOf(set ops) map[shape]int {
	m := map[shape]int{}
	for op, s := range shapes {
		if set.has(op) {
			m[s] = op
		}
	}
	return m
}

// plain tells the op without signs that tells the same of numbers that have none.
func plain(op int) int {
	switch op {
	case api.RDiv:
		return api.RDivU
	case api.RRem:
		return api.RRemU
	case api.RSar:
		return api.RShr
	}
	return op
}

// signed tells the op with signs that compares likewise.
func signed(op int) int {
	switch op {
	case api.RLtU:
		return api.RLt
	case api.RLeU:
		return api.RLe
	}
	return op
}

// lowest tells a number of which just so many of the lowest bits are those of n: the one nearest to 0.
func lowest(n int64, bits int) int64 {
	if bits >= whole {
		return n
	}
	by := whole - bits
	return n << by >> by
}
