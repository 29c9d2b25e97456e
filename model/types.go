package model

import (
	"gantlet/api"
	"gantlet/num"
)

// elements tells how many an object of a type has.
func elements(t api.Type) int {
	return max(1, t.Len)
}

// counted tells the type as which an expression counts where it is an operand.
func counted(e api.Expr) api.Type {
	t := e.Type
	switch {
	case e.Op == api.ESize:
		return api.Type{Kind: api.TU64}
	case t.Len > 0:
		return api.Type{Kind: t.Kind, Ptr: t.Ptr + 1}
	}
	return t
}

func isPointer(t api.Type) bool {
	return t.Ptr > 0
}

// common tells the kind in which two integers are reckoned with. Kinds from TI32 on stand in
// the order in which each outdoes those ahead of it.
func common(a, b api.Type) int {
	return max(a.Kind, b.Kind, api.TI32)
}

// promoted tells the kind in which an integer is reckoned with alone.
func promoted(t api.Type) int {
	return common(t, t)
}

func signed(kind int) bool {
	is, err := num.Signed(kind)
	return is && err == api.OK
}

func bits(kind int) int64 {
	n, err := num.Bytes(kind)
	if err != api.OK {
		return 0
	}
	return int64(n) << 3
}

// fit tells a number of a kind; 0, if that is no integer's, as of what is void.
func fit(kind int, n int64) int64 {
	n, err := num.Fit(kind, n)
	if err != api.OK {
		return 0
	}
	return n
}

func number(n int64) api.Val {
	return api.Val{N: n}
}

// converted tells a value as one of a type. The 0 that becomes a pointer is none already.
func converted(t api.Type, v api.Val) api.Val {
	if isPointer(t) {
		return v
	}
	return number(fit(t.Kind, v.N))
}

// truth tells whether a value is not 0: pointers to what is no more are not, either.
func truth(v api.Val) bool {
	return v != api.Val{}
}

func ofTruth(is bool) api.Val {
	if is {
		return number(1)
	}
	return number(0)
}
