package check

import (
	"math"

	"gantlet/api"
	"gantlet/num"
)

// maxStars is how many a type may have.
const maxStars = 3

// bytesOfPointer is how many each pointer has.
const bytesOfPointer = 8

func isInteger(t api.Type) bool {
	return t.Kind != api.TVoid && t.Ptr == 0 && t.Len == 0
}

func isPointer(t api.Type) bool {
	return t.Ptr > 0 && t.Len == 0
}

// isTruth tells whether what has a type is 0, or is not.
func isTruth(t api.Type) bool {
	return isInteger(t) || isPointer(t)
}

// isUsable tells whether a type is a pointer to something that may be used.
func isUsable(t api.Type) bool {
	return isPointer(t) && t != api.Type{Kind: api.TVoid, Ptr: 1}
}

// mayBeDeclared tells whether a global, a parameter or a local may have a type.
func mayBeDeclared(t api.Type) bool {
	void := t.Kind == api.TVoid && t.Ptr == 0
	return !void && !(t.Len > 0 && t.Ptr == maxStars)
}

// decayed tells an array's type as that of a pointer to its elements.
func decayed(t api.Type) api.Type {
	if t.Len > 0 {
		t.Len = 0
		t.Ptr++
	}
	return t
}

// target tells what a pointer points to, if it may be used.
func target(t api.Type) (api.Type, bool) {
	if !isUsable(t) {
		return api.Type{}, false
	}
	t.Ptr--
	return t, true
}

// promoted is common of an integer's type with itself.
func promoted(t api.Type) api.Type {
	return common(t, t)
}

// common is the type of what is made of two integers. Kinds from TI32 on stand in the order
// in which each outdoes those ahead of it; those ahead of TI32 are all promoted to that.
func common(a, b api.Type) api.Type {
	return api.Type{Kind: max(a.Kind, b.Kind, api.TI32)}
}

// ofNumber tells the type of a number that is written out.
func ofNumber(n int64) api.Type {
	if n <= math.MaxInt32 {
		return api.Type{Kind: api.TI32}
	}
	return api.Type{Kind: api.TI64}
}

// counted tells the type as which an expression counts where it is a part.
func counted(e api.Expr) api.Type {
	if e.Op == api.ESize {
		return api.Type{Kind: api.TU64}
	}
	return decayed(e.Type)
}

// fits tells whether an expression may be told where a type is asked for.
func fits(e api.Expr, t api.Type) bool {
	return fitsType(counted(e), t) || isPointer(t) && e.Op == api.ENum && e.N == 0
}

// fitsType is fits of what is no number written out.
func fitsType(told, t api.Type) bool {
	return isInteger(told) && isInteger(t) || isPointer(t) && told == t
}

// sizes tells how many bytes each type has of which a size may be asked.
func sizes() map[api.Type]int64 {
	m := map[api.Type]int64{}
	for kind := api.TVoid; kind <= api.TU64; kind++ {
		if n, err := num.Bytes(kind); err == api.OK {
			m[api.Type{Kind: kind}] = int64(n)
		}
		for stars := range maxStars {
			m[api.Type{Kind: kind, Ptr: stars + 1}] = bytesOfPointer
		}
	}
	return m
}
