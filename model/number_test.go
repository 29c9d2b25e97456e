package model_test

import (
	"math"
	"math/big"
	"slices"
	"testing"

	"gantlet/api"
)

// signs are the signs of ops of two integers.
func signs() map[int]string {
	return map[int]string{
		api.EMul: "*", api.EDiv: "/", api.EMod: "%", api.EAdd: "+", api.ESub: "-", api.EShl: "<<", api.EShr: ">>",
		api.ELt: "<", api.ELe: "<=", api.EGt: ">", api.EGe: ">=", api.EEq: "==", api.ENe: "!=", api.EAnd: "&", api.EXor: "^", api.EOr: "|",
	}
}

// edges are numbers at which something may turn into something else.
func edges() []int64 {
	l := []int64{0, 1, 2, 3, 5, 7, 10, 100, 1000003, 0x123456789abcdef}
	for _, bits := range []uint{3, 5, 6, 7, 8, 15, 16, 31, 32, 63} {
		l = append(l, 1<<bits-1, 1<<bits, 1<<bits+1)
	}
	for _, n := range slices.Clone(l) {
		l = append(l, -n)
	}
	slices.Sort(l)
	return slices.Compact(l)
}

// fewer tells one of each so many of a list, which ones hangs on seed, and the least ones.
func fewer(l []int64, every, seed int) []int64 {
	few := []int64{0, -1, math.MinInt64, math.MinInt32}
	for i := seed % every; i < len(l); i += every {
		few = append(few, l[i])
	}
	return few
}

// pairwise runs a body for each pair of numbers that come in as a and b, of two types, many
// pairs a run, and holds what it puts out against what is wanted of the pair.
func pairwise(t *testing.T, a, b int, body string, most int, want func(x, y *big.Int) []int64) {
	t.Helper()
	first, second := integers()[a].name, integers()[b].name
	s := first + " a;" + first + " c;" + second + " b;int main(){while(get()){a=get();b=get();" + body + "}}"
	var in, out []int64
	flush := func() {
		t.Helper()
		if o := ran(t, s, in, api.MaxFuel); o.Kind != api.OExit || !slices.Equal(o.Out, out) {
			t.Errorf("%q of %v:\n%s; should be\n%v", s, in, show(o), out)
		}
		in, out = nil, nil
	}
	for _, x := range fewer(edges(), 5, a) {
		for _, y := range fewer(edges(), 4, a+b) {
			in = append(in, 1, x, y)
			out = append(out, want(within(a, big.NewInt(x)), within(b, big.NewInt(y)))...)
			if len(in) == 3*most {
				flush()
			}
		}
	}
	flush()
}

// pairsOfKinds goes through all pairs of integers' types.
func pairsOfKinds(one func(a, b int)) {
	for a := api.TI8; a <= api.TU64; a++ {
		for b := api.TI8; b <= api.TU64; b++ {
			one(a, b)
		}
	}
}

// TestOpsOfTwo is of P5.1: each op of two integers, of each pair of types, alone and with =.
func TestOpsOfTwo(t *testing.T) {
	body := ""
	for op := api.EMul; op <= api.EOr; op++ {
		body += "put(a" + signs()[op] + "b);"
	}
	for op := api.EMul; op <= api.EOr; op++ {
		if op < api.ELt || op > api.ENe {
			body += "c=a;put(c" + signs()[op] + "=b);put(c);"
		}
	}
	pairsOfKinds(func(a, b int) {
		pairwise(t, a, b, body, 17, func(x, y *big.Int) []int64 {
			var l, stored []int64
			for op := api.EMul; op <= api.EOr; op++ {
				n := ofBoth(op, a, b, x, y)
				l = append(l, asLong(n))
				if op < api.ELt || op > api.ENe {
					c := asLong(within(a, n))
					stored = append(stored, c, c)
				}
			}
			return append(l, stored...)
		})
	})
}

// TestTruthOfTwo is of P5.1: &&, || and ?: of each pair of types.
func TestTruthOfTwo(t *testing.T) {
	pairsOfKinds(func(a, b int) {
		pairwise(t, a, b, "put(a&&b);put(a||b);put(a?a:b);put(b?a:b);put(a==b?a:b);put((a?b:a)>>1);put((0?b:a)/2);", 60, func(x, y *big.Int) []int64 {
			one, other := x.Sign() != 0, y.Sign() != 0
			in := joined(a, b)
			which := func(is bool, yes, no *big.Int) *big.Int {
				if is {
					return within(in, yes)
				}
				return within(in, no)
			}
			equal := ofBoth(api.EEq, a, b, x, y).Sign() != 0
			half := ofBoth(api.EShr, in, api.TI32, which(one, y, x), big.NewInt(1))
			quotient := ofBoth(api.EDiv, in, api.TI32, within(in, x), big.NewInt(2))
			var l []int64
			for _, n := range []*big.Int{ofBool(one && other), ofBool(one || other), which(one, x, y), which(other, x, y), which(equal, x, y), half, quotient} {
				l = append(l, asLong(n))
			}
			return l
		})
	})
}

// TestOpsOfOne is of P5.1: each op of one integer, of each type.
func TestOpsOfOne(t *testing.T) {
	one := big.NewInt(1)
	for a := api.TI8; a <= api.TU64; a++ {
		body := "put(-a);put(~a);put(!a);c=a;put(c++);put(c);put(c--);put(c);put(++c);put(c);put(--c);put(c);put(--c);put(-a/2);put(~a/2);if(a)put(1);if(!a)put(0);"
		pairwise(t, a, a, body, 40, func(x, _ *big.Int) []int64 {
			zero := new(big.Int)
			minus := ofBoth(api.ESub, a, a, zero, x)
			comp := ofBoth(api.EXor, a, a, x, big.NewInt(-1))
			more, less := within(a, new(big.Int).Add(x, one)), within(a, new(big.Int).Sub(x, one))
			half := func(n *big.Int) *big.Int { return ofBoth(api.EDiv, joined(a, a), api.TI32, n, big.NewInt(2)) }
			var l []int64
			for _, n := range []*big.Int{minus, comp, ofBool(x.Sign() == 0), x, more, more, x, more, more, x, x, less, half(minus), half(comp), ofBool(x.Sign() != 0)} {
				l = append(l, asLong(n))
			}
			return l
		})
	}
}

// TestConversions is of P5.1: casts, assignments, arguments, what is returned, and what is told
// to locals, from each type to each.
func TestConversions(t *testing.T) {
	pairsOfKinds(func(a, b int) {
		from, to := integers()[a].name, integers()[b].name
		s := from + " a;" + to + " b;" + to + " r(){return a;}long p(" + to + " p){return p;}int main(){while(get()){a=get();put((" + to + ")a);put(b=a);put(b);put(r());put(p(a));" + to + " d=a;put(d);}}"
		var in, out []int64
		for _, n := range edges() {
			in = append(in, 1, n)
			x := asLong(within(b, within(a, big.NewInt(n))))
			out = append(out, x, x, x, x, x, x)
		}
		if o := ran(t, s, in, api.MaxFuel); o.Kind != api.OExit || !slices.Equal(o.Out, out) {
			t.Errorf("%q: %s; should be %v", s, show(o), out)
		}
	})
}

// TestNumbers is of P5.1: numbers by hand.
func TestNumbers(t *testing.T) {
	for expr, want := range map[string]string{
		"7/0": "-1", "7%0": "7", "-7/2": "-3", "-7%2": "-1", "7/-2": "-3", "7%-2": "1",
		"u/z": "4294967295", "u%z": "4294967295", "u/2": "2147483647", "ul/z": "-1", "ul%z": "-1", "ul/2": "9223372036854775807", "l/z": "-1", "l%z": "-9223372036854775808",
		"i/-1": "-2147483648", "i%-1": "0", "l/-1": "-9223372036854775808", "l%-1": "0", "i/(0-1)": "-2147483648", "(long)i/-1": "2147483648",
		"1<<31": "-2147483648", "1<<32": "1", "1<<33": "2", "1<<-1": "-2147483648", "(long)1<<32": "4294967296", "(long)1<<63": "-9223372036854775808", "(long)1<<64": "1", "(long)1<<65": "2", "(long)1<<-1": "-9223372036854775808",
		"-8>>1": "-4", "-8>>32": "-8", "-8>>33": "-4", "-8>>-1": "-1", "u>>31": "1", "u>>32": "4294967295", "u>>33": "2147483647", "ul>>63": "1", "ul>>64": "-1", "l>>63": "-1", "1<<ul": "-2147483648", "1<<u": "-2147483648", "1<<(long)32": "1",
		"-1<u": "0", "-1<ul": "0", "-1==u": "1", "-1==ul": "1", "-1<(long)u": "1", "i<u": "1", "uc==-1": "0", "uc+1": "256", "c==-128": "1", "-c": "128", "c-1": "-129", "us*us": "-131071", "(unsigned int)us*us": "4294836225", "uc<<24": "-16777216", "uc<<25": "-33554432",
		"2147483647+1": "-2147483648", "2147483648+1": "2147483649", "9223372036854775807+1": "-9223372036854775808", "-2147483648": "-2147483648", "-2147483648-1": "-2147483649", "-2147483647-2": "2147483647",
		"-u": "1", "~u": "0", "~0": "-1", "-ul": "1", "!u": "0", "!z": "1", "!!u": "1", "~uc": "-256", "-uc": "-255", "0-sizeof(int)": "-4", "sizeof(int)-5>0": "1", "-sizeof(char)>0": "1", "sizeof(char)": "1", "sizeof(unsigned short)": "2", "sizeof(long)": "8", "sizeof(void*)": "8", "(char)sizeof(int***)": "8",
		"(char)300": "44", "(unsigned char)-1": "255", "(short)40000": "-25536", "(unsigned int)-1": "4294967295", "(int)4294967295": "-1", "(unsigned long)-1": "-1", "(long)(unsigned int)-1": "4294967295", "(unsigned long)(int)-1>>1": "9223372036854775807",
		"z?i:u": "4294967295", "z?u:-1": "4294967295", "1?-1:u": "4294967295", "1?c:ul": "-128", "z?1:2": "2", "u&-2": "4294967294", "c|z": "-128", "c^-1": "127", "ul&-2": "-2",
		"c=300": "44", "c+=200": "72", "uc+=1": "0", "uc-=256": "255", "us<<=9": "65024", "c>>=40": "-1", "u>>=40": "16777215", "i*=2": "0", "c/=-1": "-128", "c%=0": "-128", "c/=0": "-1", "uc/=0": "255", "uc^=-1": "0", "i|=u": "-1", "i-=ul": "-2147483647", "ul%=10": "5", "l=u=c=-1": "4294967295",
		"c++": "-128", "++c": "-127", "--c": "127", "c--": "-128", "uc++": "255", "++uc": "0", "us--": "65535", "++u": "0", "--z": "-1", "i--": "-2147483648", "--i": "2147483647", "++ul": "0", "--l": "9223372036854775807",
		"1&&2": "1", "1&&0": "0", "0&&(c=1)": "0", "0||0": "0", "0||9": "1", "1||(c=1)": "1",
	} {
		mainPuts(t, "char c=-128;unsigned char uc=255;unsigned short us=65535;int i=2147483648;unsigned int u=-1;long l=-9223372036854775807;unsigned long ul=-1;int z;", "l--;put("+expr+");", want)
	}
}
