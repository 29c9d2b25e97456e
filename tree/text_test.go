package tree_test

import (
	"math"
	"math/big"
	"strconv"
	"strings"
	"testing"

	"gantlet/api"
	"gantlet/tree"
)

// isText holds that s is a tree's text, and nothing else than that: P6.3.
func isText(t *testing.T, s string, want api.Tree) {
	t.Helper()
	x, err := tree.Parse(s)
	if show(x) != show(want) || err != api.OK {
		t.Errorf("Parse(%q): %s, %d; should be %s", s, show(x), err, show(want))
	}
	if again, err := tree.Text(x); again != s || err != api.OK {
		t.Errorf("Text of Parse(%q): %q, %d", s, again, err)
	}
}

// isNoText holds that no tree has that text, and that nothing is told beside.
func isNoText(t *testing.T, s string) {
	t.Helper()
	if x, err := tree.Parse(s); x.Op != 0 || x.N != 0 || len(x.Kids) != 0 || err != api.ErrForm {
		t.Errorf("Parse(%q): %s, %d", s, show(x), err)
	}
}

// TestTextSome is of P6.2 and P6.3: texts written by hand.
func TestTextSome(t *testing.T) {
	tmp := func(n int64) api.Tree { return api.Tree{Op: api.RTmp, N: n} }
	for s, x := range map[string]api.Tree{
		"add(con(1), con(2))":       of(api.RAdd, con(1), con(2)),
		"con(0)":                    con(0),
		"con(-1)":                   con(-1),
		"con(10)":                   con(10),
		"con(9223372036854775807)":  con(most),
		"con(-9223372036854775808)": con(least),
		"con(-9223372036854775807)": con(least + 1),
		"tmp(0)":                    tmp(0),
		"tmp(9223372036854775807)":  tmp(most),
		"loc(16)":                   {Op: api.RLoc, N: 16},
		"glo(100)":                  {Op: api.RGlo, N: 100},
		"load64(glo(3))":            of(api.RLoad64, api.Tree{Op: api.RGlo, N: 3}),
		"loadu16(add(loc(0), shl(zext8(tmp(7)), con(-3))))": of(api.RLoadU16, of(api.RAdd, api.Tree{Op: api.RLoc}, of(api.RShl, of(api.RZext8, tmp(7)), con(-3)))),
		"sub(sub(con(1), con(2)), con(3))":                  of(api.RSub, of(api.RSub, con(1), con(2)), con(3)),
		"sub(con(1), sub(con(2), con(3)))":                  of(api.RSub, con(1), of(api.RSub, con(2), con(3))),
		"leu(divu(tmp(1), tmp(2)), remu(tmp(3), tmp(4)))":   of(api.RLeU, of(api.RDivU, tmp(1), tmp(2)), of(api.RRemU, tmp(3), tmp(4))),
	} {
		isText(t, s, x)
		isTaken(t, x)
	}
}

// TestWords is of P6.2: the words, in the ops' order, as the document writes them.
func TestWords(t *testing.T) {
	words := strings.Fields("con tmp loc glo load8 load16 load32 load64 loadu8 loadu16 loadu32 add sub mul div divu rem remu and or xor shl shr sar eq ne lt ltu le leu ext8 ext16 ext32 zext8 zext16 zext32")
	if len(words) != api.RZext32-api.RCon+1 {
		t.Fatal(len(words))
	}
	for i, w := range words {
		op := api.RCon + i
		s := w + "(tmp(4), con(-5))"
		x := of(op, api.Tree{Op: api.RTmp, N: 4}, con(-5))
		switch {
		case op <= api.RGlo:
			s, x = w+"(6)", api.Tree{Op: op, N: 6}
		case op <= api.RLoadU32 || op >= api.RExt8:
			s, x = w+"(con(-5))", of(op, con(-5))
		}
		isText(t, s, x)
		isText(t, "ne("+s+", ext16("+s+"))", of(api.RNe, x, of(api.RExt16, x)))
	}
}

// TestNearly is of P6.2: texts that are nearly a tree's.
func TestNearly(t *testing.T) {
	for _, s := range []string{
		"", " ", "\n", "\x00", "(", ")", "()", ",", ", ", "(1)", "1", "-1", "con", "con(", "con)", "con()", "con(1", "con1)", "con 1", "con[1]", "con{1}",
		" con(1)", "con (1)", "con( 1)", "con(1 )", "con(1) ", "con\t(1)", "con(1)\n", "\tcon(1)", "\rcon(1)", "con(1)\x00", "\x00con(1)", "con(1\x00)", "con\x00(1)", "con\u00a0(1)", "con(1)\u200b", "\ufeffcon(1)",
		"add(con(1),con(2))", "add(con(1),  con(2))", "add(con(1) , con(2))", "add(con(1) ,con(2))", "add( con(1), con(2))", "add(con(1), con(2) )", "add (con(1), con(2))", "add(con(1),\tcon(2))", "add(con(1),\ncon(2))", " add(con(1), con(2))", "add(con(1), con(2)) ",
		"add(con(1) con(2))", "add(con(1)con(2))", "add(con(1), , con(2))", "add(con(1),, con(2))", "add(, con(1), con(2))", "add(con(1), con(2), )", "add(con(1), con(2),)", "add(con(1), con(2)),", "add(con(1); con(2))", "add(con(1). con(2))",
		"add(con(1), con(2)", "add(con(1), con(2)))", "add((con(1), con(2))", "add((con(1), con(2)))", "add((con(1)), con(2))", "add(con(1), (con(2)))", "add con(1), con(2)", "add(con(1), con(2", "add(con(1, con(2))", "add(con 1), con(2))", "add[con(1), con(2)]", "(add(con(1), con(2)))", "addcon(1), con(2))", "add(con(1)), con(2)", "add)con(1), con(2)(",
		"add()", "add(con(1))", "add(con(1), )", "add(, )", "add(con(1), con(2), con(3))", "add(1, 2)", "add(1)", "add(con(1), 2)", "add(1, con(2))", "add", "add(",
		"ext8()", "ext8(1)", "ext8(con(1), con(2))", "ext8(con(1), )", "ext8(con(1)", "ext8 (con(1))", "load8()", "load8(0)", "load8(con(1), con(2))", "load8(tmp)", "con(con(1))", "con(1, 2)", "con(1, )", "con(1,)", "con(tmp(1))", "tmp(con(1))", "tmp(tmp(1))",
		"x(1)", "CON(1)", "Con(1)", "co(1)", "conn(1)", "con0(1)", "c(1)", "cón(1)", "num(1)", "none(1)", "Add(con(1), con(2))", "ADD(con(1), con(2))", "ad(con(1), con(2))", "addd(con(1), con(2))", "addi(con(1), con(2))", "plus(con(1), con(2))", "+(con(1), con(2))", "gt(con(1), con(2))", "ge(con(1), con(2))", "gtu(con(1), con(2))", "geu(con(1), con(2))", "mulu(con(1), con(2))", "not(con(1))", "neg(con(1))", "ext64(con(1))", "zext64(con(1))", "ext(con(1))", "zext(con(1))", "load(con(1))", "loadu(con(1))", "loadu64(con(1))", "load128(con(1))", "store8(con(1))", "zext(con(1))", "reg", "any", "load6(con(1))",
		"add\x00(con(1), con(2))", "or\x00\x00(con(1), con(2))", "loadu16\x00(con(1))", "loadu160(con(1))", "loadu16x(con(1))", "loadu168(con(1))", "loadu322(con(1))", "loadu3(con(1))", "zext322(con(1))", "\x00(con(1))", "\x00\x00\x00\x00\x00\x00\x00(con(1))", "con\x00\x00\x00\x00(1)", "con\x00\x00\x00\x00\x00(1)",
		"con(+1)", "con(+0)", "con(-0)", "con(--1)", "con(-+1)", "con(+-1)", "con(++1)", "con(- 1)", "con(-)", "con(+)", "con(--)", "con(01)", "con(00)", "con(001)", "con(-01)", "con(-00)", "con(0000000000000000000000000000001)", "con(0x1)", "con(0b1)", "con(0o1)", "con(1_0)", "con(_1)", "con(1_)", "con(1e3)", "con(1.0)", "con(1.)", "con(.1)", "con(1u)", "con(1l)", "con(a)", "con(1a)", "con(a1)", "con(ff)", "con('1')", "con(\"1\")", "con(1 1)", "con(1)1", "con(1-)", "con(1+1)", "con(−1)", "con(١)", "con(１)",
		"con(9223372036854775808)", "con(-9223372036854775809)", "con(18446744073709551615)", "con(18446744073709551616)", "con(18446744073709551617)", "con(-18446744073709551615)", "con(10000000000000000000)", "con(-10000000000000000000)", "con(99999999999999999999)", "con(340282366920938463463374607431768211457)", "tmp(9223372036854775808)", "loc(18446744073709551616)", "glo(-9223372036854775809)",
		"tmp(-1)", "loc(-1)", "glo(-1)", "tmp(-9223372036854775808)", "loc(-9223372036854775808)", "glo(-9223372036854775808)", "tmp(-0)", "loc(-0)", "tmp(00)", "glo(07)", "tmp()", "loc()", "glo()", "tmp(+1)", "tmp", "loc", "glo", "ext8(tmp(-1))", "add(con(1), tmp(-1))",
		"con(1)con(1)", "con(1) con(1)", "con(1), con(2)", "con(1)\ncon(2)", "con(1)x", "con(1)(", "con(1))", "con(1);", "con(1).", "con(1)0", "ext8(con(1))ext8(con(1))", "add(con(1), con(2))con(3)", "add(con(1), con(2)), con(3)",
	} {
		isNoText(t, s)
	}
}

// TestNearlyNumbers is of P6.2: numbers around the least and the greatest one, and far beyond.
func TestNearlyNumbers(t *testing.T) {
	for _, at := range []*big.Int{big.NewInt(0), big.NewInt(most), big.NewInt(least), new(big.Int).SetUint64(math.MaxUint64), new(big.Int).Lsh(big.NewInt(1), 65), new(big.Int).Lsh(big.NewInt(-1), 64), new(big.Int).Lsh(big.NewInt(1), 128), new(big.Int).Lsh(big.NewInt(1), 5000)} {
		for i := int64(-300); i <= 300; i++ {
			n := new(big.Int).Add(at, big.NewInt(i))
			for _, k := range kinds[:4] {
				s := k.word + "(" + n.String() + ")"
				if n.IsInt64() && (k.op == api.RCon || n.Sign() >= 0) {
					isText(t, s, api.Tree{Op: k.op, N: n.Int64()})
				} else {
					isNoText(t, s)
				}
				if k.op == api.RCon {
					isNoText(t, "con(0"+n.String()+")")
					isNoText(t, "con(+"+n.String()+")")
					isNoText(t, "con(-0"+n.String()+")")
				}
			}
		}
	}
}

// TestTooMany is of P6.2: texts of trees of MaxTree nodes parse, of more none does.
func TestTooMany(t *testing.T) {
	for _, nodes := range []int{3, 4, 99, 100, api.MaxTree - 1, api.MaxTree, api.MaxTree + 1, api.MaxTree + 2, 255, 256, 300, 2 * api.MaxTree, 2000} {
		for i, x := range shapes(nodes) {
			s := textOf(x)
			if nodes <= api.MaxTree {
				isText(t, s, x)
				isNoText(t, s[:len(s)-1])
				continue
			}
			if y, err := tree.Parse(s); err != api.ErrForm || show(y) != show(api.Tree{}) {
				t.Errorf("shape %d of %d: %s, %d", i, nodes, show(y), err)
			}
		}
	}
}

// TestLongTexts is of R1: texts that go on and on come to an end soon.
func TestLongTexts(t *testing.T) {
	long := 1 << 22
	for _, piece := range []string{"(", ")", " ", "\x00", "a", "1", "ext8(", "add(", "add(con(1), ", "con(1)", "con(", "con(1), ", ", ", "-", "0", "load64(loc(1))", "add(add(", "x(", "con)"} {
		whole := strings.Repeat(piece, long/len(piece))
		for _, s := range []string{whole, "con(" + whole, "con(" + whole + ")", "add(con(1), " + whole, "add(con(1), con(2))" + whole, strings.Repeat("add(", 199) + whole, "add(" + whole + ", con(1))", whole + ")", whole + "(1)"} {
			if x, err := tree.Parse(s); err != api.ErrForm || show(x) != show(api.Tree{}) {
				t.Errorf("%q..: %s, %d", s[:min(len(s), 40)], show(x), err)
			}
		}
	}
}

// TestDeepTexts is of R1: a text that is nested deeper than there is room for anywhere does not
// use up the stack.
func TestDeepTexts(t *testing.T) {
	for _, piece := range []string{"ext8(", "add(", "load16(", "add(con(1), "} {
		if x, err := tree.Parse(strings.Repeat(piece, 1<<24)); err != api.ErrForm || show(x) != show(api.Tree{}) {
			t.Errorf("%q..: %s, %d", piece, show(x), err)
		}
	}
}

// TestUndo is P6.3: texts of trees made at random parse to the trees, whichever sizes.
func TestUndo(t *testing.T) {
	below := mix(362436069362436069)
	for i := range 4000 {
		x := made(below, 1+i%api.MaxTree, isAny)
		s, err := tree.Text(x)
		if s != textOf(x) || err != api.OK {
			t.Fatalf("Text(%s): %q, %d", show(x), s, err)
		}
		isText(t, s, x)
	}
}

// onlyIfText holds that s parses just if it is the text of what it parses to.
func onlyIfText(t *testing.T, s string) bool {
	t.Helper()
	x, err := tree.Parse(s)
	if err != api.OK {
		isNoText(t, s)
		return false
	}
	if tree.Check(x) != api.OK || textOf(x) != s {
		t.Errorf("Parse(%q): %s", s, show(x))
	}
	return true
}

// TestChanged is of P6.2 and P6.3: texts with a byte less, one more, or another one.
func TestChanged(t *testing.T) {
	below := mix(521288629521288629)
	texts := []string{"add(con(1), con(2))", "con(-9223372036854775808)", "load64(add(glo(10), mul(con(8), zext16(tmp(3)))))"}
	for i := range 16 {
		texts = append(texts, textOf(made(below, 1+i%12, isAny)))
	}
	bytes := " \t\n\x00(),;.-+_0123456789abcdefglmnoprstuxz8AZ\x7f\xff"
	right, wrong := 0, 0
	count := func(s string) {
		if onlyIfText(t, s) {
			right++
		} else {
			wrong++
		}
	}
	for _, s := range texts {
		for i := range len(s) + 1 {
			for _, b := range []byte(bytes) {
				count(s[:i] + string([]byte{b}) + s[i:])
				if i < len(s) {
					count(s[:i] + string([]byte{b}) + s[i+1:])
				}
			}
			count(s[:i])
			count(s[i:])
			if i < len(s) {
				count(s[:i] + s[i+1:])
			}
			for range 8 {
				j := below(len(s) + 1)
				count(s[:min(i, j)] + s[max(i, j):])
				count(s[:max(i, j)] + s[min(i, j):])
			}
		}
	}
	if right < 1000 || wrong < 30000 {
		t.Errorf("%d, %d", right, wrong)
	}
}

// TestMadeOfPieces is of P6.2 and P6.3: texts of pieces that stand in texts, in any order.
func TestMadeOfPieces(t *testing.T) {
	below := mix(5783321578332157)
	pieces := []string{"con(1)", "tmp(2)", "add(", "ext8(", ")", ", ", "con(", "(", "1", "-1", "load8(", "con(0)", ",", " "}
	right := 0
	for range 100000 {
		var s strings.Builder
		for range 1 + below(8) {
			s.WriteString(pieces[below(len(pieces))])
		}
		if onlyIfText(t, s.String()) {
			right++
		}
	}
	if right < 2000 {
		t.Error(right)
	}
}

// TestBlanks is of P6.2: a blank stands behind each comma, and nowhere else.
func TestBlanks(t *testing.T) {
	s := "add(load8(con(-1)), sub(tmp(0), ext32(con(22))))"
	if _, err := tree.Parse(s); err != api.OK {
		t.Fatal(err)
	}
	for i := range len(s) + 1 {
		for _, blank := range []string{" ", "  ", "\t", "\n", "\r", "\v"} {
			isNoText(t, s[:i]+blank+s[i:])
		}
	}
	isNoText(t, strings.ReplaceAll(s, " ", ""))
	isNoText(t, strings.ReplaceAll(s, " ", "\t"))
	for i := range s {
		isNoText(t, s[:i])
		isNoText(t, s+s[i:])
		if strings.ContainsRune("(), ", rune(s[i])) {
			isNoText(t, s[:i]+s[i+1:])
			isNoText(t, s[:i+1]+s[i:])
		}
	}
}

// TestOtherWords is of P6.2: no other word of up to four letters is one, nor one that is an
// op's but for a letter.
func TestOtherWords(t *testing.T) {
	ours := map[string]kind{}
	for _, k := range kinds {
		ours[k.word] = k
	}
	try := func(w string) {
		if _, is := ours[w]; is {
			return
		}
		for _, args := range []string{"(1)", "(con(1))", "(con(1), con(1))"} {
			isNoText(t, w+args)
		}
	}
	letters := "abcdefghijklmnopqrstuvwxyz"
	for _, a := range letters {
		try(string(a))
		for _, b := range letters {
			try(string(a) + string(b))
			for _, c := range letters {
				try(string(a) + string(b) + string(c))
			}
		}
	}
	for _, k := range kinds {
		for i := range len(k.word) + 1 {
			for c := range 256 {
				try(k.word[:i] + string([]byte{byte(c)}) + k.word[i:])
				if i < len(k.word) {
					try(k.word[:i] + string([]byte{byte(c)}) + k.word[i+1:])
				}
			}
			try(k.word[:i])
			try(k.word[i:])
		}
		for n := range 300 {
			try(k.word + strconv.Itoa(n))
		}
	}
}
