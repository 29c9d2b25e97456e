// Package num: numbers of all widths: see ../../shared/doc/01-num.md.
package num

import "gantlet/api"

// shape is all that tells one kind of number from another.
type shape struct {
	bytes  int
	signed bool
}

// Bytes tells how many bytes a number of that kind has.
func Bytes(kind int) (int, api.Errno) {
	s, ok := shapeOfKind(kind)
	if !ok {
		return 0, api.ErrForm
	}
	return s.bytes, api.OK
}

// Signed tells whether the numbers of that kind have a sign.
func Signed(kind int) (bool, api.Errno) {
	s, ok := shapeOfKind(kind)
	if !ok {
		return false, api.ErrForm
	}
	return s.signed, api.OK
}

// Fit tells the lowest bits of n as a number of that kind.
func Fit(kind int, n int64) (int64, api.Errno) {
	switch kind {
	case api.TI8:
		return int64(int8(n)), api.OK
	case api.TU8:
		return int64(uint8(n)), api.OK
	case api.TI16:
		return int64(int16(n)), api.OK
	case api.TU16:
		return int64(uint16(n)), api.OK
	case api.TI32:
		return int64(int32(n)), api.OK
	case api.TU32:
		return int64(uint32(n)), api.OK
	case api.TI64, api.TU64:
		// A number of TU64 from 2^63 on has no other form here than its bits.
		return n, api.OK
	}
	return 0, api.ErrForm
}

// Bin tells what op makes of a and b, all of 64 bits.
func Bin(op int, a int64, b int64) (int64, api.Errno) {
	switch op {
	case api.RAdd:
		return a + b, api.OK
	case api.RSub:
		return a - b, api.OK
	case api.RMul:
		return a * b, api.OK
	case api.RDiv, api.RRem, api.RDivU, api.RRemU:
		return divide(op, a, b), api.OK
	case api.RAnd:
		return a & b, api.OK
	case api.ROr:
		return a | b, api.OK
	case api.RXor:
		return a ^ b, api.OK
	case api.RShl, api.RShr, api.RSar:
		return shift(op, a, b), api.OK
	case api.REq, api.RNe, api.RLt, api.RLtU, api.RLe, api.RLeU:
		return truth(holds(op, a, b)), api.OK
	}
	return 0, api.ErrForm
}

// Un tells what op makes of a: its lowest bits, with their sign or without.
func Un(op int, a int64) (int64, api.Errno) {
	s, ok := shapeOfOp(op)
	if !ok {
		return 0, api.ErrForm
	}
	return Fit(kinds()[s], a)
}

// divide tells a quotient or a rest. Go panics by 0 alone: of the least by -1 its
// quotient is the least and its rest 0, as they should be here.
func divide(op int, a, b int64) int64 {
	quotient := op == api.RDiv || op == api.RDivU
	switch {
	case b == 0 && quotient:
		return -1
	case b == 0:
		return a
	case op == api.RDiv:
		return a / b
	case op == api.RDivU:
		return int64(uint64(a) / uint64(b))
	case op == api.RRem:
		return a % b
	}
	return int64(uint64(a) % uint64(b))
}

// shift takes the count's lowest six bits, since Go shifts by 64 and more to nothing,
// and panics where a count is below 0.
func shift(op int, a, b int64) int64 {
	by := uint64(b) % 64
	switch op {
	case api.RShl:
		return a << by
	case api.RShr:
		return int64(uint64(a) >> by)
	}
	return a >> by
}

// holds tells whether a and b compare as op asks.
func holds(op int, a, b int64) bool {
	switch op {
	case api.REq:
		return a == b
	case api.RNe:
		return a != b
	case api.RLt:
		return a < b
	case api.RLtU:
		return uint64(a) < uint64(b)
	case api.RLe:
		return a <= b
	}
	return uint64(a) <= uint64(b)
}

// truth tells 1 or 0.
func truth(is bool) int64 {
	if is {
		return 1
	}
	return 0
}

// shapeOfKind tells a kind's shape, if it is an integer's.
func shapeOfKind(kind int) (shape, bool) {
	switch kind {
	case api.TI8:
		return shape{1, true}, true
	case api.TU8:
		return shape{1, false}, true
	case api.TI16:
		return shape{2, true}, true
	case api.TU16:
		return shape{2, false}, true
	case api.TI32:
		return shape{4, true}, true
	case api.TU32:
		return shape{4, false}, true
	case api.TI64:
		return shape{8, true}, true
	case api.TU64:
		return shape{8, false}, true
	}
	return shape{}, false
}

// shapeOfOp tells which shape an op gives a number, if it is one of Un's.
func shapeOfOp(op int) (shape, bool) {
	switch op {
	case api.RExt8:
		return shape{1, true}, true
	case api.RExt16:
		return shape{2, true}, true
	case api.RExt32:
		return shape{4, true}, true
	case api.RZext8:
		return shape{1, false}, true
	case api.RZext16:
		return shape{2, false}, true
	case api.RZext32:
		return shape{4, false}, true
	}
	return shape{}, false
}

// kinds tells of each shape that Un gives which kind has it.
func kinds() map[shape]int {
	return map[shape]int{
		{1, true}: api.TI8, {2, true}: api.TI16, {4, true}: api.TI32,
		{1, false}: api.TU8, {2, false}: api.TU16, {4, false}: api.TU32,
	}
}
