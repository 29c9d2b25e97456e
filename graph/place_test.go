package graph_test

import (
	"strings"
	"testing"

	"gantlet/api"
)

// operand is a value that an op may be given: a number (of no object), or a place so many bytes from
// an object's begin.
type operand struct {
	tree string
	of   string
	n    int64
}

// bytesOf tells how many bytes the objects of operands have.
var bytesOf = map[string]int64{"a": 24, "b": 16, "c": 2, "gone": 16, "gone too": 8}

func operands() []operand {
	var l []operand
	for _, n := range []int64{0, 1, 8, 24, 25, -1, -8, 100, most, least, least + 8, 1 << 32} {
		l = append(l, operand{con(n), "", n})
	}
	for at := int64(0); at <= 24; at += 4 {
		l = append(l, operand{"add(glo(0), " + con(at) + ")", "a", at})
	}
	for _, at := range []int64{0, 8, 15, 16} {
		l = append(l, operand{"add(" + con(at) + ", glo(1))", "b", at})
	}
	for _, at := range []int64{0, 2} {
		l = append(l, operand{"add(loc(0), " + con(at) + ")", "c", at})
	}
	return append(l, operand{"tmp(0)", "gone", 0}, operand{"tmp(1)", "gone", 8}, operand{"tmp(2)", "gone", 16}, operand{"tmp(3)", "gone too", 0})
}

// among is a program that has the operands, and does a step with them. Functions 1 and 2 tell
// places in locals of theirs.
func among(steps ...api.Step) api.Prog {
	steps = append([]api.Step{call(0, 1, "con(0)"), call(3, 2), set(1, "con(0)")}, steps...)
	first := fn(0, objs(obj(1, 2)), ret("con(0)", steps...))
	other := fn(1, objs(obj(8, 2)), ret("add(loc(0), tmp(0))"))
	return prog(objs(obj(8, 3), obj(2, 8)), first, other, fn(0, objs(obj(4, 1), obj(8, 1)), ret("loc(1)")))
}

// ofTwo tells what an op of two makes of operands; no object and no number, if it is stuck.
func ofTwo(op string, a, b operand) (place string, n int64, ok bool) {
	lives := func(o operand) bool { return !strings.HasPrefix(o.of, "gone") }
	order := map[string]bool{"sub": true, "lt": true, "ltu": true, "le": true, "leu": true}
	switch {
	case a.of == "" && b.of == "":
		return "", reckon(opOf(op), a.n, b.n), true
	case op == "add" && b.of == "":
		n, ok = shifted(a, b.n)
		return a.of, n, ok && lives(a)
	case op == "add" && a.of == "":
		n, ok = shifted(b, a.n)
		return b.of, n, ok && lives(b)
	case op == "sub" && b.of == "":
		n, ok = shifted(a, -b.n)
		return a.of, n, ok && lives(a) && b.n != least
	case order[op] && a.of == b.of:
		return "", reckon(opOf(op), a.n, b.n), lives(a)
	case op != "eq" && op != "ne":
		return "", 0, false
	case a.of == "" || b.of == "":
		number := a.n
		if b.of == "" {
			number = b.n
		}
		return "", ofBool(op == "ne"), number == 0
	case a.of == b.of:
		return "", reckon(opOf(op), a.n, b.n), lives(a)
	}
	return "", ofBool(op == "ne"), lives(a) && lives(b) && a.n < bytesOf[a.of] && b.n < bytesOf[b.of]
}

func shifted(p operand, by int64) (int64, bool) {
	if by < -1000 || by > 1000 {
		return 0, false
	}
	n := p.n + by
	return n, n >= 0 && n <= bytesOf[p.of]
}

// opOf tells an op by its word.
func opOf(word string) int {
	for i, w := range pairs {
		if w == word {
			return api.RAdd + i
		}
	}
	return api.RNone
}

// settled is among, with places in what is no more at 0, 8 and 16 bytes as temporaries 0 to 2.
func settled(steps ...api.Step) api.Prog {
	return among(append([]api.Step{call(1, 1, "con(8)"), call(2, 1, "con(16)")}, steps...)...)
}

// sameCall is settled for an op whose operands are both in one object that is no more: a
// function tells two places of it by a global.
func sameCall(s string) api.Prog {
	keeps := fn(0, objs(obj(8, 2)), ret("con(0)", store(8, "glo(0)", "loc(0)"), store(8, "add(glo(0), con(8))", "add(loc(0), con(8))"), store(8, "add(glo(0), con(16))", "add(loc(0), con(16))")))
	first := fn(0, objs(obj(1, 2)), ret("con(0)", call(-1, 1), set(0, "load64(glo(0))"), set(1, "load64(add(glo(0), con(8)))"), set(2, "load64(add(glo(0), con(16)))"), set(9, s)))
	return prog(objs(obj(8, 3), obj(2, 8)), first, keeps)
}

// TestOpsOfTwo is of P7.1: each op of two, of numbers, of places in objects that are, at their
// ends, and in some that are no more.
func TestOpsOfTwo(t *testing.T) {
	stuckOnes, others := 0, 0
	for _, w := range pairs {
		for _, a := range operands() {
			for _, b := range operands() {
				s := w + "(" + a.tree + ", " + b.tree + ")"
				of, n, ok := ofTwo(w, a, b)
				switch {
				case !ok && a.of == "gone" && b.of == "gone":
					isStuck(t, s, sameCall(s))
				case !ok:
					isStuck(t, s, settled(set(9, s)))
					stuckOnes++
				case of == "":
					puts(t, settled(set(9, s), put("tmp(9)")), itoa(n))
					others++
				default:
					base := map[string]string{"a": "glo(0)", "b": "glo(1)", "c": "loc(0)"}[of]
					puts(t, settled(set(9, s), put("sub(tmp(9), "+base+")")), itoa(n))
					others++
				}
			}
		}
	}
	if stuckOnes < 8000 || others < 2500 {
		t.Errorf("%d are stuck, %d are not", stuckOnes, others)
	}
}

// TestOpsOfOne is of P7.1: ops of one are stuck of each place.
func TestOpsOfOne(t *testing.T) {
	for _, w := range single {
		for _, a := range operands() {
			if a.of != "" {
				isStuck(t, w+"("+a.tree+")", settled(set(9, w+"("+a.tree+")")))
			}
		}
	}
}

// TestGone is of P7.1: loads and stores of what is no more are stuck; the place itself may be
// told on, returned, stored, loaded, and asked for whether it is 0.
func TestGone(t *testing.T) {
	for _, at := range []string{"tmp(0)", "tmp(1)", "tmp(2)", "tmp(3)"} {
		for _, w := range loads {
			isStuck(t, w, settled(set(9, w+"("+at+")")))
		}
		for _, size := range []int{1, 2, 4, 8} {
			isStuck(t, "store", settled(store(size, at, "con(1)")))
		}
		puts(t, settled(store(8, "glo(0)", at), set(9, "load64(glo(0))"), put("eq(tmp(9), con(0))"), put("ne(tmp(9), con(0))"), put("eq(con(0), tmp(9))"), put("ne(con(0), tmp(9))")), "0 1 0 1")
		isStuck(t, "put", settled(put(at)))
		isStuck(t, "exit", settled(exit(at)))
	}
	main := fn(0, nil, jump(1, call(0, 1)), branch("tmp(0)", 2, 3), ret("con(0)", call(1, 2, "tmp(0)", "con(3)"), call(2, 2, "con(0)", "tmp(0)"), put("ne(tmp(1), con(0))"), put("tmp(2)")), ret("con(1)"))
	tells := fn(2, nil, ret("tmp(0)"))
	puts(t, prog(nil, main, fn(0, objs(obj(4, 1)), ret("loc(0)")), tells), "1 0")
}

// TestAnew is of P7.1: locals are each call's own, and a call's locals are none that another one
// had.
func TestAnew(t *testing.T) {
	tells := fn(1, objs(obj(8, 1, 5)), branch("tmp(0)", 1, 2, set(1, "load64(loc(0))"), store(8, "loc(0)", "con(6)"), put("tmp(1)")), ret("loc(0)"), ret("con(0)"))
	puts(t, prog(nil, fn(0, nil, ret("con(0)", call(-1, 1, "con(0)"), call(-1, 1, "con(0)"))), tells), "5 5")
	first := fn(0, objs(obj(8, 1)), ret("con(0)", call(0, 1, "con(1)"), call(1, 1, "con(1)"), set(2, "eq(tmp(0), tmp(1))")))
	isStuck(t, "two that are no more", prog(nil, first, tells))
	// The one call's local is, while the other one's is no more.
	asks := fn(1, objs(obj(8, 1)), ret("con(0)", put("ne(tmp(0), con(0))"), set(1, "eq(tmp(0), loc(0))")))
	o := ran(t, prog(nil, fn(0, nil, ret("con(0)", call(0, 1, "con(1)"), call(-1, 2, "tmp(0)"))), tells, asks), nil, 1000)
	if show(o) != stuck {
		t.Error(show(o))
	}
	// Each of two calls of one function has its own, and the outer one's stays.
	outer := fn(2, objs(obj(8, 1), obj(2, 2)), branch("tmp(0)", 1, 2, store(8, "loc(0)", "add(tmp(0), con(70))")),
		ret("con(0)", call(-1, 1, "con(0)", "loc(0)"), put("load64(loc(0))")),
		ret("con(0)", put("eq(loc(0), tmp(1))"), put("load64(tmp(1))"), put("load64(loc(0))"), store(8, "tmp(1)", "con(9)"), put("eq(loc(0), loc(0))"), put("eq(loc(0), loc(1))")))
	puts(t, prog(nil, fn(0, nil, ret("con(0)", call(-1, 1, "con(1)", "con(0)"))), outer), "0 71 70 1 0 9")
}

// TestPlacesOfFewerBytes is of P7.1: a place is stored by 8 bytes, told by load64, and no
// number any more where it is; a number that is stored there is one again.
func TestPlacesOfFewerBytes(t *testing.T) {
	globals := objs(obj(1, 8), obj(2, 4), obj(4, 2), obj(8, 2))
	for i, size := range []int{1, 2, 4} {
		at := "glo(" + itoa(int64(i)) + ")"
		for _, place := range []string{"glo(0)", "loc(0)", at, "add(glo(3), con(16))"} {
			isStuck(t, "store of a place", prog(globals, fn(0, objs(obj(1, 1)), ret("con(0)", store(size, at, place)))))
		}
	}
	p := prog(globals, fn(0, nil, ret("con(0)", store(8, "add(glo(3), con(8))", "add(glo(1), con(6))"), put("sub(load64(add(glo(3), con(8))), glo(1))"), put("load64(glo(3))"),
		store(2, "load64(add(glo(3), con(8)))", "con(5)"), put("load16(add(glo(1), con(6)))"),
		store(8, "glo(3)", "load64(add(glo(3), con(8)))"), put("eq(load64(glo(3)), load64(add(glo(3), con(8))))"),
		store(8, "add(glo(3), con(8))", "con(-3)"), put("load64(add(glo(3), con(8)))"), put("load16(load64(glo(3)))"))))
	puts(t, p, "6 0 5 1 -3 5")
	for i, w := range loads {
		if w != "load64" {
			isStuck(t, w+" of a place", prog(globals, fn(0, nil, ret("con(0)", store(8, "glo(3)", "glo(0)"), set(0, w+"(glo(3))")))))
			isStuck(t, w+" of a number", prog(objs(obj(8, 1, int64(i))), fn(0, nil, ret("con(0)", set(0, w+"(glo(0))")))))
		}
	}
}

// TestPlacesInOut is of P7.1: no place is put out, nor a code.
func TestPlacesInOut(t *testing.T) {
	globals := objs(obj(8, 2))
	for _, s := range []string{"glo(0)", "loc(0)", "add(glo(0), con(16))", "add(loc(0), con(1))"} {
		isStuck(t, "put", prog(globals, fn(0, objs(obj(2, 1)), ret("con(0)", put(s)))))
		isStuck(t, "exit", prog(globals, fn(0, objs(obj(2, 1)), ret("con(0)", exit(s)))))
		for _, b := range []api.Block{ret(s), ret(s, put("con(1)"))} {
			if got := show(ran(t, prog(globals, fn(0, objs(obj(2, 1)), b)), nil, 100)); got != stuck {
				t.Errorf("return of %s: %s", s, got)
			}
		}
	}
	inner := fn(1, nil, ret("add(tmp(0), con(8))"))
	puts(t, prog(globals, fn(0, nil, ret("con(0)", call(0, 1, "glo(0)"), put("sub(tmp(0), glo(0))"))), inner), "8")
}

// TestBranchOnPlace is of P7.1: a place is not 0, whatever it is a place of.
func TestBranchOnPlace(t *testing.T) {
	for s, want := range map[string]string{"glo(0)": "1", "add(glo(0), con(16))": "1", "loc(0)": "1", "tmp(0)": "1", "con(0)": "0", "con(-1)": "1", "con(256)": "1", con(1 << 32): "1", con(least): "1", "tmp(5)": "0", "sub(glo(0), glo(0))": "0", "eq(glo(0), loc(0))": "0"} {
		main := fn(0, objs(obj(1, 1)), jump(1, call(0, 1)), branch(s, 2, 3), ret("con(0)", put("con(1)")), ret("con(0)", put("con(0)")))
		puts(t, prog(objs(obj(8, 2)), main, fn(0, objs(obj(1, 1)), ret("loc(0)"))), want)
	}
	for _, s := range []string{"mul(glo(0), con(1))", "load64(con(0))", "eq(glo(0), con(1))", "add(glo(0), con(17))"} {
		if got := show(ran(t, prog(objs(obj(8, 2)), fn(0, nil, branch(s, 1, 1), ret("con(0)"))), nil, 100)); got != stuck {
			t.Errorf("%s: %s", s, got)
		}
	}
}
