package graph_test

import (
	"testing"

	"gantlet/api"
	"gantlet/num"
)

// TestNumbersOfTwo is of P7.1: each op of two numbers is num.Bin's, wherever they come from.
func TestNumbersOfTwo(t *testing.T) {
	b := ret("con(0)", get(0), get(1))
	for _, w := range pairs {
		b.Steps = append(b.Steps, put(w+"(tmp(0), tmp(1))"))
	}
	p := simple(b)
	for _, x := range edges {
		for _, y := range edges {
			var want []int64
			for op := api.RAdd; op <= api.RLeU; op++ {
				n, _ := num.Bin(op, x, y)
				want = append(want, n)
			}
			puts(t, p, numbers(want), x, y)
		}
	}
}

// TestNumbersOfOne is of P7.1: each op of one number is num.Un's.
func TestNumbersOfOne(t *testing.T) {
	b := ret("con(0)", get(0))
	for _, w := range single {
		b.Steps = append(b.Steps, put(w+"(tmp(0))"))
	}
	p := simple(b)
	for _, x := range edges {
		var want []int64
		for op := api.RExt8; op <= api.RZext32; op++ {
			n, _ := num.Un(op, x)
			want = append(want, n)
		}
		puts(t, p, numbers(want), x)
	}
}

// TestNumbers is of P7.1: what ops make of numbers, some by hand.
func TestNumbers(t *testing.T) {
	for s, want := range map[string]string{
		"con(-9223372036854775808)":                       "-9223372036854775808",
		"con(9223372036854775807)":                        "9223372036854775807",
		"add(con(9223372036854775807), con(1))":           "-9223372036854775808",
		"sub(con(3), con(5))":                             "-2",
		"mul(con(4294967296), con(4294967297))":           "4294967296",
		"div(con(-7), con(2))":                            "-3",
		"div(con(7), con(0))":                             "-1",
		"div(con(-9223372036854775808), con(-1))":         "-9223372036854775808",
		"divu(con(-1), con(2))":                           "9223372036854775807",
		"divu(con(5), con(0))":                            "-1",
		"rem(con(-7), con(2))":                            "-1",
		"rem(con(-7), con(0))":                            "-7",
		"rem(con(-9223372036854775808), con(-1))":         "0",
		"remu(con(-1), con(10))":                          "5",
		"remu(con(-3), con(0))":                           "-3",
		"and(con(12), con(10))":                           "8",
		"or(con(12), con(10))":                            "14",
		"xor(con(12), con(10))":                           "6",
		"shl(con(1), con(65))":                            "2",
		"shr(con(-1), con(63))":                           "1",
		"sar(con(-8), con(-63))":                          "-4",
		"eq(con(3), con(3))":                              "1",
		"ne(con(3), con(3))":                              "0",
		"lt(con(-1), con(0))":                             "1",
		"ltu(con(-1), con(0))":                            "0",
		"le(con(3), con(3))":                              "1",
		"leu(con(0), con(-1))":                            "1",
		"ext8(con(384))":                                  "-128",
		"ext16(con(32768))":                               "-32768",
		"ext32(con(2147483648))":                          "-2147483648",
		"zext8(con(-1))":                                  "255",
		"zext16(con(-1))":                                 "65535",
		"zext32(con(-1))":                                 "4294967295",
		"sub(con(10), sub(con(3), con(9)))":               "16",
		"sub(sub(con(10), con(3)), con(9))":               "-2",
		"div(mul(con(6), con(7)), zext8(ext8(con(260))))": "10",
		"tmp(7)":                                  "0",
		"add(tmp(0), mul(tmp(1), con(100)))":      "205",
		"ext8(add(tmp(1), mul(tmp(0), con(30))))": "-104",
	} {
		puts(t, simple(ret("con(0)", set(0, "con(5)"), set(1, "con(2)"), put(s))), want)
	}
}

// deepened tells a tree of so many nodes around another one.
func deepened(s string, more int) string {
	for range more {
		s = "ext32(" + s + ")"
	}
	return s
}

// TestLongTrees is of P7.1: trees as large as they may be.
func TestLongTrees(t *testing.T) {
	sum := "tmp(0)"
	for i := range int64(99) {
		sum = "add(" + sum + ", " + con(i) + ")"
	}
	other := "tmp(0)"
	for i := range int64(99) {
		other = "sub(" + con(i) + ", " + other + ")"
	}
	chain := deepened("tmp(0)", api.MaxTree-1)
	puts(t, simple(ret("con(0)", get(0), put(sum), put(other), put(chain))), "4856 44 5", 5)
}

// TestLoads is of P7.1: what each load tells of an element of its size, that was there at first,
// or was stored.
func TestLoads(t *testing.T) {
	for i, w := range loads {
		op := api.RLoad8 + i
		size := sizeOf(op)
		for _, n := range edges {
			want := loadedBy(op, n)
			first := prog(objs(obj(size, 2, 77, n)), fn(0, objs(obj(size, 3, 5, n, 6)), ret("con(0)",
				put(w+"(add(glo(0), "+con(int64(size))+"))"), put(w+"(add(loc(0), "+con(int64(size))+"))"))))
			puts(t, first, numbers([]int64{want, want}))
			stored := prog(objs(obj(size, 3, 1, 2, 3)), fn(0, nil, ret("con(0)", get(0), store(size, "add(glo(0), "+con(int64(size))+")", "tmp(0)"),
				put(w+"(glo(0))"), put(w+"(add("+con(int64(size))+", glo(0)))"), put(w+"(add(glo(0), "+con(int64(2*size))+"))"))))
			puts(t, stored, numbers([]int64{1, want, 3}), n)
		}
	}
}

// sizeOf tells how many bytes a load's op reads.
func sizeOf(op int) int {
	switch op {
	case api.RLoad8, api.RLoadU8:
		return 1
	case api.RLoad16, api.RLoadU16:
		return 2
	case api.RLoad32, api.RLoadU32:
		return 4
	}
	return 8
}

// loadedBy tells what a load's op makes of a number that was stored.
func loadedBy(op int, n int64) int64 {
	switch op {
	case api.RLoad8:
		return int64(int8(n))
	case api.RLoadU8:
		return int64(uint8(n))
	case api.RLoad16:
		return int64(int16(n))
	case api.RLoadU16:
		return int64(uint16(n))
	case api.RLoad32:
		return int64(int32(n))
	case api.RLoadU32:
		return int64(uint32(n))
	}
	return n
}

// TestWhere is of P7.1: where loads and stores find an element: of their size, at a multiple of
// it, below the object's end.
func TestWhere(t *testing.T) {
	for _, has := range []int{1, 2, 4, 8} {
		for _, count := range []int{1, 2, 3, api.MaxLen} {
			for at := 0; at <= has*count; at++ {
				place := "add(glo(0), " + con(int64(at)) + ")"
				for i, w := range loads {
					size := sizeOf(api.RLoad8 + i)
					p := prog(objs(obj(has, count), obj(8, 1)), fn(0, objs(obj(has, 1)), ret("con(0)", put(w+"("+place+")"))))
					is := size == has && at%size == 0 && at < has*count
					if is {
						puts(t, p, "0")
					} else {
						isStuck(t, w+" at "+place, p)
					}
				}
				for _, size := range []int{1, 2, 4, 8} {
					p := prog(objs(obj(has, count)), fn(0, nil, ret("con(0)", store(size, place, "con(1)"))))
					if size == has && at%size == 0 && at < has*count {
						puts(t, p, "")
					} else {
						isStuck(t, "store at "+place, p)
					}
				}
			}
		}
	}
}

// TestNoPlace is of P7.1: a number is no place, whatever it is.
func TestNoPlace(t *testing.T) {
	for _, n := range edges {
		for i, w := range loads {
			size := sizeOf(api.RLoad8 + i)
			isStuck(t, w+" at "+itoa(n), prog(objs(obj(size, 9)), fn(0, objs(obj(size, 9)), ret("con(0)", put(w+"("+con(n)+")")))))
			isStuck(t, "store at "+itoa(n), prog(objs(obj(size, 9)), fn(0, objs(obj(size, 9)), ret("con(0)", store(size, con(n), "con(1)")))))
		}
	}
}

// TestElements is of P7.1: elements are each for itself, of each object, and 0 behind what is told
// of them.
func TestElements(t *testing.T) {
	globals := objs(obj(8, 4, 1, 2), obj(1, 4, 3, -4, 300), obj(2, 4, 1<<16+9), obj(4, 1))
	locals := objs(obj(4, 3, -5), obj(8, 1, least), obj(1, api.MaxLen, 7))
	p := prog(globals, fn(0, locals, ret("con(0)",
		put("load64(add(glo(0), con(8)))"), put("load64(add(glo(0), con(24)))"), put("load8(add(glo(1), con(1)))"), put("loadu8(add(glo(1), con(1)))"),
		put("load8(add(glo(1), con(2)))"), put("load8(add(glo(1), con(3)))"), put("load16(glo(2))"), put("load32(glo(3))"),
		put("load32(loc(0))"), put("loadu32(loc(0))"), put("load64(loc(1))"), put("load8(add(loc(2), con(63)))"),
		store(8, "add(glo(0), con(8))", "con(70)"), store(4, "add(loc(0), con(4))", "con(4294967297)"), store(1, "add(loc(2), con(63))", "con(-129)"),
		put("load64(glo(0))"), put("load64(add(glo(0), con(8)))"), put("load64(add(glo(0), con(16)))"),
		put("load32(loc(0))"), put("load32(add(loc(0), con(4)))"), put("load32(add(loc(0), con(8)))"), put("load8(loc(2))"), put("load8(add(loc(2), con(62)))"), put("load8(add(loc(2), con(63)))"))))
	puts(t, p, "2 0 -4 252 44 0 9 0 -5 4294967291 -9223372036854775808 0 1 70 0 -5 1 0 7 0 127")
}
