package lex_test

import (
	"math"
	"math/big"
	"slices"
	"strconv"
	"strings"
	"testing"

	"gantlet/api"
	"gantlet/lex"
)

func words() []string {
	return strings.Fields("void char short int long unsigned if else while do for switch case default break continue return goto sizeof")
}

func signs() []string {
	return strings.Fields("<<= >>= ++ -- << >> <= >= == != && || += -= *= /= %= &= ^= |= + - * / % & | ^ ~ ! < > = ? : ; , ( ) [ ] { }")
}

func blanks() []string {
	return []string{" ", "\t", "\n", "\r"}
}

func name(text string, pos int) api.Token {
	return api.Token{Kind: api.KName, Text: text, Pos: pos}
}

func word(text string, pos int) api.Token {
	return api.Token{Kind: api.KWord, Text: text, Pos: pos}
}

func sign(text string, pos int) api.Token {
	return api.Token{Kind: api.KSign, Text: text, Pos: pos}
}

func number(n int64, pos int) api.Token {
	return api.Token{Kind: api.KNum, N: n, Pos: pos}
}

func end(pos int) api.Token {
	return api.Token{Kind: api.KEnd, Pos: pos}
}

// tells holds what Tokens tells of s against the tokens that are wanted.
func tells(t *testing.T, s string, want ...api.Token) {
	t.Helper()
	l, f := lex.Tokens(s)
	if f != (api.Fault{}) || !slices.Equal(l, want) {
		t.Errorf("%.60q: %+v, %+v; should be %+v", s, l, f, want)
	}
}

// refuses holds what Tokens tells of s against the fault that is wanted, without tokens.
func refuses(t *testing.T, s string, err api.Errno, pos int) {
	t.Helper()
	l, f := lex.Tokens(s)
	if f != (api.Fault{Err: int(err), Pos: pos}) || len(l) != 0 {
		t.Errorf("%.60q: %+v, %+v; should be %d at %d", s, l, f, err, pos)
	}
}

// TestExample is of P2.1: the chapter's example.
func TestExample(t *testing.T) {
	tells(t, "a+=1", name("a", 0), sign("+=", 1), number(1, 3), end(4))
}

// TestProgram is of P2.1: an ordinary text.
func TestProgram(t *testing.T) {
	tells(t, "int main(void) {\n\treturn f_2(x1, 30) >= 4;\r\n}\n",
		word("int", 0), name("main", 4), sign("(", 8), word("void", 9), sign(")", 13), sign("{", 15),
		word("return", 18), name("f_2", 25), sign("(", 28), name("x1", 29), sign(",", 31), number(30, 33), sign(")", 35),
		sign(">=", 37), number(4, 40), sign(";", 41), sign("}", 44), end(46))
	tells(t, "a[i]=b?c:~d;", name("a", 0), sign("[", 1), name("i", 2), sign("]", 3), sign("=", 4), name("b", 5),
		sign("?", 6), name("c", 7), sign(":", 8), sign("~", 9), name("d", 10), sign(";", 11), end(12))
}

// TestNothing is of P2.1: a text without tokens has its end alone.
func TestNothing(t *testing.T) {
	tells(t, "", end(0))
	for _, b := range blanks() {
		tells(t, b, end(1))
		tells(t, b+b+b, end(3))
	}
	tells(t, "\r\n \t", end(4))
}

// TestBlanks is of P2.1: each of the four blanks parts tokens, ahead, between and behind.
func TestBlanks(t *testing.T) {
	for _, b := range blanks() {
		tells(t, b+"a"+b+"b"+b, name("a", 1), name("b", 3), end(5))
		tells(t, "1"+b+"2", number(1, 0), number(2, 2), end(3))
		tells(t, "+"+b+"="+b+b, sign("+", 0), sign("=", 2), end(5))
		tells(t, "1"+b+"x", number(1, 0), name("x", 2), end(3))
	}
}

// TestWords is of P2.1: each word is one, and just as it stands in the list.
func TestWords(t *testing.T) {
	for _, w := range words() {
		n := len(w)
		tells(t, w, word(w, 0), end(n))
		tells(t, w+";", word(w, 0), sign(";", n), end(n+1))
		tells(t, "("+w, sign("(", 0), word(w, 1), end(n+1))
		for _, like := range []string{w + "_", w + "1", "_" + w, w + w, w[:n-1] + "0", strings.ToUpper(w), strings.ToUpper(w[:1]) + w[1:], w[1:] + "q"} {
			tells(t, like, name(like, 0), end(len(like)))
		}
		tells(t, w+" "+w, word(w, 0), word(w, n+1), end(2*n+1))
	}
}

// TestNames is of P2.1: names of all that a name may have, no words among them.
func TestNames(t *testing.T) {
	for _, s := range []string{"a", "z", "A", "Z", "_", "__", "_0", "_9", "a0", "z9Z", "aA_0zZ9", "Int", "INT", "main", "put", "get", "exit",
		"signed", "const", "static", "struct", "union", "enum", "typedef", "float", "double", "register", "volatile", "extern", "auto", "inline",
		"i", "in", "integer", "dod", "d", "elseif", "size", "of", "unsign"} {
		tells(t, s, name(s, 0), end(len(s)))
	}
	long := strings.Repeat("_aZ09", api.MaxText/5)
	tells(t, long, name(long, 0), end(api.MaxText))
}

// TestNumbers is of P2.1: numbers up to the largest, also behind zeros.
func TestNumbers(t *testing.T) {
	for _, n := range []int64{0, 1, 7, 9, 10, 99, 100, 2147483647, 2147483648, 4294967295, 4294967296, 1000000000000000000, math.MaxInt64 - 10, math.MaxInt64 - 1, math.MaxInt64} {
		s := strconv.FormatInt(n, 10)
		tells(t, s, number(n, 0), end(len(s)))
		tells(t, "-"+s+";", sign("-", 0), number(n, 1), sign(";", len(s)+1), end(len(s)+2))
		zeros := strings.Repeat("0", 30)
		tells(t, zeros+s, number(n, 0), end(30+len(s)))
	}
	tells(t, "007", number(7, 0), end(3))
	tells(t, "010", number(10, 0), end(3))
	tells(t, strings.Repeat("0", api.MaxText), number(0, 0), end(api.MaxText))
	tells(t, strings.Repeat("0", api.MaxText-19)+"9223372036854775807", number(math.MaxInt64, 0), end(api.MaxText))
}

// TestTooLarge is of P2.1: numbers above the largest, those among them that go round to a small one too.
func TestTooLarge(t *testing.T) {
	top := new(big.Int).Lsh(big.NewInt(1), 63)
	for _, add := range []int64{0, 1, 2, 5, 9, 10, 100, math.MaxInt64} {
		s := new(big.Int).Add(top, big.NewInt(add)).String()
		refuses(t, s, api.ErrRange, 0)
		refuses(t, "000"+s, api.ErrRange, 0)
		refuses(t, "a = "+s+";", api.ErrRange, 4)
	}
	for i := uint(64); i < 140; i++ {
		round := new(big.Int).Lsh(big.NewInt(1), i)
		for _, add := range []int64{-1, 0, 1, 7, math.MaxInt64} {
			refuses(t, new(big.Int).Add(round, big.NewInt(add)).String(), api.ErrRange, 0)
		}
	}
	refuses(t, "9223372036854775810", api.ErrRange, 0)
	refuses(t, "10000000000000000000", api.ErrRange, 0)
	refuses(t, "18446744073709551616", api.ErrRange, 0)
	refuses(t, "18446744073709551617", api.ErrRange, 0)
	refuses(t, "92233720368547758070", api.ErrRange, 0)
	refuses(t, strings.Repeat("9", api.MaxText), api.ErrRange, 0)
	refuses(t, "1"+strings.Repeat("0", api.MaxText-1), api.ErrRange, 0)
}

// TestLetterBehindNumber is of P2.1: a letter or _ at once behind a number, and what else may stand there.
func TestLetterBehindNumber(t *testing.T) {
	for _, c := range "_azAZxXeEuUlLmM" {
		refuses(t, "1"+string(c), api.ErrToken, 0)
		refuses(t, "0"+string(c)+"1", api.ErrToken, 0)
		refuses(t, "a 12"+string(c)+" b", api.ErrToken, 2)
		refuses(t, "a+9223372036854775807"+string(c), api.ErrToken, 2)
		refuses(t, "9223372036854775808"+string(c), api.ErrRange, 0)
	}
	for _, s := range signs() {
		tells(t, "12"+s, number(12, 0), sign(s, 2), end(2+len(s)))
	}
	refuses(t, "1int", api.ErrToken, 0)
	refuses(t, "1\x80", api.ErrToken, 1)
	refuses(t, "1.5", api.ErrToken, 1)
	tells(t, "a1", name("a1", 0), end(2))
	tells(t, "_1 1", name("_1", 0), number(1, 3), end(4))
}

// TestSigns is of P2.1: each sign alone, and among names and numbers.
func TestSigns(t *testing.T) {
	for _, s := range signs() {
		n := len(s)
		tells(t, s, sign(s, 0), end(n))
		tells(t, " "+s+" ", sign(s, 1), end(n+2))
		tells(t, "a"+s+"b", name("a", 0), sign(s, 1), name("b", n+1), end(n+2))
		tells(t, "1"+s+"2", number(1, 0), sign(s, 1), number(2, n+1), end(n+2))
		refuses(t, s+"\x00", api.ErrToken, n)
		refuses(t, s+"\x00=", api.ErrToken, n)
		refuses(t, s+"\xff", api.ErrToken, n)
	}
}

// TestLongestSign is of P2.1: of several signs the longest, worked out by hand.
func TestLongestSign(t *testing.T) {
	for s, want := range map[string]string{
		"<<=": "<<=", ">>=": ">>=", "<<<": "<< <", ">>>": ">> >", "<<<=": "<< <=", ">>>=": ">> >=", ">>>>=": ">> >>=", "<<==": "<<= =",
		"<==": "<= =", "===": "== =", "====": "== ==", "!==": "!= =", "!!=": "! !=", "=!": "= !", "=<": "= <", "=>": "= >", "<>": "< >", "><": "> <",
		"+++": "++ +", "++++": "++ ++", "---": "-- -", "+++=": "++ +=", "--=": "-- =", "++=": "++ =", "+-": "+ -", "->": "- >", "=+": "= +",
		"&&&": "&& &", "&&=": "&& =", "&&&=": "&& &=", "|||": "|| |", "||=": "|| =", "^^": "^ ^", "^^=": "^ ^=", "~=": "~ =", "~~": "~ ~", "**": "* *", "**=": "* *=",
		"//": "/ /", "/*": "/ *", "*/": "* /", "/**/": "/ * * /", "%%=": "% %=", "?:": "? :", "::": ": :", ":=": ": =", "<:": "< :", ";;": "; ;",
		"()": "( )", "[]": "[ ]", "{}": "{ }", "<<>>=": "<< >>=", "<<+=": "<< +=", "-=-": "-= -", "<=>": "<= >", "<=<": "<= <",
	} {
		at := 0
		var l []api.Token
		for _, part := range strings.Fields(want) {
			l = append(l, sign(part, at))
			at += len(part)
		}
		tells(t, s, append(l, end(at))...)
	}
}

// TestWithoutToken is of P2.1: each byte that begins no token, at the front, behind tokens and ahead of some.
func TestWithoutToken(t *testing.T) {
	const begin = "abcdefghijklmnopqrstuvwxyzABCDEFGHIJKLMNOPQRSTUVWXYZ_0123456789+-*/%&|^~!<>=?:;,()[]{} \t\n\r"
	found := 0
	for c := range 256 {
		b := string([]byte{byte(c)})
		if strings.Contains(begin, b) {
			found++
			if _, f := lex.Tokens(b); f != (api.Fault{}) {
				t.Errorf("%q: %+v", b, f)
			}
			continue
		}
		refuses(t, b, api.ErrToken, 0)
		refuses(t, b+"a", api.ErrToken, 0)
		refuses(t, "a"+b, api.ErrToken, 1)
		refuses(t, "int x; "+b+"= 3", api.ErrToken, 7)
		refuses(t, "7"+b, api.ErrToken, 1)
		refuses(t, "<"+b+"=", api.ErrToken, 1)
		refuses(t, "<<"+b, api.ErrToken, 2)
		refuses(t, " \n"+b, api.ErrToken, 2)
	}
	if found != len(begin) {
		t.Errorf("%d bytes begin something", found)
	}
}

// TestAboveAscii is of P2.1: letters, digits and blanks beyond the first 128 are none.
func TestAboveAscii(t *testing.T) {
	for _, s := range []string{"\u00e9", "\u00c4", "\u00b5", "\u0660", "\u00b2", "\uff11", "\u00a0", "\u0085", "\u2003", "\ufeff", "\u212a", "\U0001f600", "\xc3", "\x80", "\xff"} {
		refuses(t, s, api.ErrToken, 0)
		refuses(t, "x"+s, api.ErrToken, 1)
		refuses(t, "12"+s, api.ErrToken, 2)
		refuses(t, "int "+s+"a", api.ErrToken, 4)
	}
}

// TestFirstFault is of P2.1: of several faults the one that stands first.
func TestFirstFault(t *testing.T) {
	const large = "9223372036854775808"
	refuses(t, "a @ "+large, api.ErrToken, 2)
	refuses(t, "a "+large+" @", api.ErrRange, 2)
	refuses(t, "a 1b "+large+" @", api.ErrToken, 2)
	refuses(t, large+" "+large, api.ErrRange, 0)
	refuses(t, "a b\n\n#\n#", api.ErrToken, 5)
	refuses(t, large+"@", api.ErrRange, 0)
	refuses(t, "1a@", api.ErrToken, 0)
}

// TestLength is of P2.1: a text of MaxText bytes, and longer ones, whose other faults are not told.
func TestLength(t *testing.T) {
	full := strings.Repeat("a;", api.MaxText/2)
	l, f := lex.Tokens(full)
	if f != (api.Fault{}) || len(l) != api.MaxText+1 || l[api.MaxText] != end(api.MaxText) || l[api.MaxText-1] != sign(";", api.MaxText-1) {
		t.Errorf("%d tokens, %+v", len(l), f)
	}
	tells(t, strings.Repeat(" ", api.MaxText), end(api.MaxText))
	tells(t, strings.Repeat("\n", api.MaxText-1)+"x", name("x", api.MaxText-1), end(api.MaxText))
	refuses(t, strings.Repeat(" ", api.MaxText-1)+"@", api.ErrToken, api.MaxText-1)
	for _, s := range []string{full + "a", full + " ", full + "@", "@" + full, "1a" + full, strings.Repeat(" ", api.MaxText+1),
		strings.Repeat("a", api.MaxText+1), strings.Repeat("9", api.MaxText+1), strings.Repeat("\xff", api.MaxText+1), strings.Repeat("a ", 1<<20)} {
		refuses(t, s, api.ErrLimit, 0)
	}
	// The length is told in bytes, not in runes.
	refuses(t, strings.Repeat("\u00e9", api.MaxText/2), api.ErrToken, 0)
	refuses(t, strings.Repeat("\u00e9", api.MaxText/2)+"a", api.ErrLimit, 0)
}

// read is P2.1 told another way: at each place all that may stand there is tried.
func read(s string) ([]api.Token, api.Fault) {
	if len(s) > api.MaxText {
		return nil, api.Fault{Err: int(api.ErrLimit)}
	}
	var l []api.Token
	at := 0
	for at < len(s) {
		rest := s[at:]
		letters := len(rest) - len(strings.TrimLeft(rest, "abcdefghijklmnopqrstuvwxyzABCDEFGHIJKLMNOPQRSTUVWXYZ_0123456789"))
		digits := len(rest) - len(strings.TrimLeft(rest, "0123456789"))
		switch {
		case strings.IndexByte(" \t\n\r", rest[0]) >= 0:
			at++
			continue
		case digits > 0:
			n, _ := new(big.Int).SetString(rest[:digits], 10)
			if !n.IsInt64() {
				return nil, api.Fault{Err: int(api.ErrRange), Pos: at}
			}
			if letters > digits {
				return nil, api.Fault{Err: int(api.ErrToken), Pos: at}
			}
			l = append(l, number(n.Int64(), at))
			at += digits
			continue
		case letters > 0 && slices.Contains(words(), rest[:letters]):
			l = append(l, word(rest[:letters], at))
			at += letters
			continue
		case letters > 0:
			l = append(l, name(rest[:letters], at))
			at += letters
			continue
		}
		best := ""
		for _, s := range signs() {
			if strings.HasPrefix(rest, s) && len(s) > len(best) {
				best = s
			}
		}
		if best == "" {
			return nil, api.Fault{Err: int(api.ErrToken), Pos: at}
		}
		l = append(l, sign(best, at))
		at += len(best)
	}
	return append(l, end(at)), api.Fault{}
}

// same holds Tokens against read.
func same(t *testing.T, s string) {
	t.Helper()
	l, f := lex.Tokens(s)
	m, g := read(s)
	if f != g || !slices.Equal(l, m) {
		t.Fatalf("%q: %+v, %+v; should be %+v, %+v", s, l, f, m, g)
	}
}

// TestAllShort is of P2.1: each text of up to three bytes, of all signs' bytes and some others.
func TestAllShort(t *testing.T) {
	const of = "+-*/%&|^~!<>=?:;,()[]{} a_1\x00\xe9"
	for i := range of {
		same(t, of[i:i+1])
		for j := range of {
			same(t, of[i:i+1]+of[j:j+1])
			for k := range of {
				same(t, of[i:i+1]+of[j:j+1]+of[k:k+1])
			}
		}
	}
}

// mix tells numbers below n by a fixed rule.
func mix(seed uint64) func(n int) int {
	return func(n int) int {
		seed ^= seed << 13
		seed ^= seed >> 7
		seed ^= seed << 17
		return int(seed >> 11 % uint64(n))
	}
}

// pieces tells what texts are put together from.
func pieces() []string {
	return slices.Concat(words(), signs(), blanks(), []string{"a", "x1", "_", "main", "0", "12", "9223372036854775807", "  ", "\r\n", "wh", "ile"})
}

// TestMixed is of P2.1: long texts, put together by a fixed rule, few of them faulty.
func TestMixed(t *testing.T) {
	below := mix(88172645463325252)
	l := pieces()
	faulty := []string{"9223372036854775808", "1a", "@", "\x00", "\xc3\xa9"}
	for range 3000 {
		var s strings.Builder
		for range below(60) {
			s.WriteString(l[below(len(l))])
			s.WriteString(blanks()[below(4)][:below(2)])
			if below(200) == 0 {
				s.WriteString(faulty[below(len(faulty))])
			}
		}
		same(t, s.String())
	}
}

// TestBlanksChangeNothing is P2.2: the same tokens with other blanks between them are the same, but for where they stand.
func TestBlanksChangeNothing(t *testing.T) {
	below := mix(1181783497276652981)
	l := pieces()
	for range 300 {
		var parts []string
		for range below(40) {
			if p := strings.TrimSpace(l[below(len(l))]); p != "" {
				parts = append(parts, p)
			}
		}
		first, f := lex.Tokens(strings.Join(parts, " "))
		if f != (api.Fault{}) || len(first) != len(parts)+1 {
			t.Fatalf("%q: %+v, %+v", parts, first, f)
		}
		var s strings.Builder
		for i, p := range parts {
			for range 1 + below(4) {
				s.WriteString(blanks()[below(4)])
			}
			first[i].Pos = s.Len()
			s.WriteString(p)
		}
		s.WriteString(strings.Repeat("\n", below(3)))
		first[len(parts)].Pos = s.Len()
		tells(t, s.String(), first...)
	}
}

// TestWithoutBlanks is P2.2: where tokens part without them, blanks may be left out.
func TestWithoutBlanks(t *testing.T) {
	const close, wide = "int f(int*p){return p[1]+-2<<3;}", "\tint f ( int * p ) {\r\n return p [ 1 ] + - 2 << 3 ; } "
	l, f := lex.Tokens(close)
	m, g := lex.Tokens(wide)
	if f != (api.Fault{}) || g != f || len(l) != len(m) {
		t.Fatalf("%+v, %+v; %+v, %+v", l, f, m, g)
	}
	for i := range l {
		l[i].Pos, m[i].Pos = 0, 0
		if l[i] != m[i] {
			t.Errorf("%+v, %+v", l[i], m[i])
		}
	}
}

// TestNewMemory is of R1 and R2: who writes into what is told, or appends to it, changes nothing else.
func TestNewMemory(t *testing.T) {
	const s = "for (i = 0; i < 10; ++i) put(i);"
	want, _ := lex.Tokens(s)
	kept := slices.Clone(want)
	l, _ := lex.Tokens(s)
	room := l[:cap(l)]
	for i := range room {
		room[i] = sign("?", -1)
	}
	_ = append(l, name("z", -2))
	refuses(t, "1x", api.ErrToken, 0)
	again, f := lex.Tokens(s)
	if f != (api.Fault{}) || !slices.Equal(again, kept) || !slices.Equal(want, kept) {
		t.Errorf("%+v, %+v", again, want)
	}
}
