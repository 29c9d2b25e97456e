package checked

import (
	"gantlet/api"
	"gantlet/num"
)

// bytesOfPointer is how many each pointer has.
const bytesOfPointer = 8

// Elements tells how many an object of a type has.
func Elements(t api.Type) int {
	return max(1, t.Len)
}

// Bytes tells how many an element of an object of a type has.
func Bytes(t api.Type) int {
	if t.Ptr > 0 {
		return bytesOfPointer
	}
	return bytesOfKind(t.Kind)
}

// Target tells to what a pointer points.
func Target(t api.Type) api.Type {
	t.Ptr--
	return t
}

// Counted tells the type as which an expression counts where it is an operand.
func Counted(e api.Expr) api.Type {
	t := e.Type
	switch {
	case e.Op == api.ESize:
		return api.Type{Kind: api.TU64}
	case t.Len > 0:
		return api.Type{Kind: t.Kind, Ptr: t.Ptr + 1}
	}
	return t
}

// IsPointer tells whether a type as which something counts is one of pointers.
func IsPointer(t api.Type) bool {
	return t.Ptr > 0
}

// Common tells the kind in which two integers are reckoned with. Kinds from TI32 on stand in
// the order in which each outdoes those ahead of it.
func Common(a, b api.Type) int {
	return max(a.Kind, b.Kind, api.TI32)
}

// Promoted tells the kind in which an integer is reckoned with alone.
func Promoted(t api.Type) int {
	return Common(t, t)
}

// Signed tells whether numbers of a kind have a sign.
func Signed(kind int) bool {
	is, err := num.Signed(kind)
	return is && err == api.OK
}

// Bits tells how many a number of a kind has.
func Bits(kind int) int64 {
	return int64(bytesOfKind(kind)) << 3
}

// Fit tells a number of a kind; 0, if that is no integer's, as of what is void.
func Fit(kind int, n int64) int64 {
	n, err := num.Fit(kind, n)
	if err != api.OK {
		return 0
	}
	return n
}

// bytesOfKind tells how many a number of a kind has; 0, if that is no integer's.
func bytesOfKind(kind int) int {
	n, err := num.Bytes(kind)
	if err != api.OK {
		return 0
	}
	return n
}
