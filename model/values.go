package model

import (
	"gantlet/api"
	"gantlet/checked"
)

func number(n int64) api.Val {
	return api.Val{N: n}
}

// converted tells a value as one of a type. The 0 that becomes a pointer is none already.
func converted(t api.Type, v api.Val) api.Val {
	if checked.IsPointer(t) {
		return v
	}
	return number(checked.Fit(t.Kind, v.N))
}

// truth tells whether a value is not 0: pointers to what is no more are not, either.
func truth(v api.Val) bool {
	return v != api.Val{}
}

func ofTruth(is bool) api.Val {
	if is {
		return number(1)
	}
	return number(0)
}
