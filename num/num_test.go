package num_test

import (
	"math"
	"math/big"
	"testing"

	"gantlet/api"
	"gantlet/num"
)

const (
	least = math.MinInt64
	most  = math.MaxInt64
)

// kind is what is to be told of a kind of integers.
type kind struct {
	name   string
	kind   int
	bytes  int
	signed bool
	low    int64
	high   int64
}

func kinds() []kind {
	return []kind{
		{"TI8", api.TI8, 1, true, -128, 127},
		{"TU8", api.TU8, 1, false, 0, 255},
		{"TI16", api.TI16, 2, true, -32768, 32767},
		{"TU16", api.TU16, 2, false, 0, 65535},
		{"TI32", api.TI32, 4, true, -2147483648, 2147483647},
		{"TU32", api.TU32, 4, false, 0, 4294967295},
		{"TI64", api.TI64, 8, true, least, most},
		{"TU64", api.TU64, 8, false, least, most},
	}
}

// noKinds holds numbers just beside the kinds, and some that are kinds in their lowest bits alone.
func noKinds() []int {
	return []int{api.TVoid, -1, -8, api.TU64 + 1, 16, 64, 256 + api.TI8, 65536 + api.TU16, 1<<32 + api.TI32, math.MinInt + api.TI64, math.MinInt, math.MaxInt}
}

// edges holds the numbers at which widths, signs and counts of shifts turn.
func edges() []int64 {
	l := []int64{0, least, most, 0x0123456789abcdef, -0x0123456789abcdef, 0x5555555555555555, -0x5555555555555556}
	for i := range 64 {
		bit := int64(1) << i
		l = append(l, bit, bit-1, bit+1, -bit, -bit-1, -bit+1)
	}
	for i := range int64(260) {
		l = append(l, i-130)
	}
	return l
}

// pairs holds many pairs: of edges, and of numbers that a fixed rule mixes.
func pairs() [][2]int64 {
	few := []int64{0, 1, 2, 3, 7, 10, 31, 32, 33, 62, 63, 64, 65, 127, 128, 129, -1, -2, -3, -7, -31, -63, -64, -65, -128,
		255, 256, 65535, math.MaxInt32, math.MinInt32, 1 << 31, 1 << 32, 1<<32 + 1, -1 << 32, 1 << 62, 1<<62 + 5, most, most - 1, least, least + 1}
	var l [][2]int64
	for _, a := range append(edges(), few...) {
		for _, b := range few {
			l = append(l, [2]int64{a, b}, [2]int64{b, a})
		}
	}
	n := uint64(88172645463325252)
	next := func() int64 {
		n ^= n << 13
		n ^= n >> 7
		n ^= n << 17
		return int64(n)
	}
	for i := range 2000 {
		a, b := next(), next()
		l = append(l, [2]int64{a, b}, [2]int64{a, b >> (i % 64)}, [2]int64{a >> (i % 64), b}, [2]int64{a, a})
	}
	return l
}

// TestKindsToldOf is of P1.1: every kind's bytes and sign.
func TestKindsToldOf(t *testing.T) {
	for _, k := range kinds() {
		if n, e := num.Bytes(k.kind); n != k.bytes || e != api.OK {
			t.Errorf("Bytes(%s): %d, %d", k.name, n, e)
		}
		if is, e := num.Signed(k.kind); is != k.signed || e != api.OK {
			t.Errorf("Signed(%s): %v, %d", k.name, is, e)
		}
	}
}

// TestNoKinds is of P1.1: what is no integer's kind is refused, and nothing is told beside.
func TestNoKinds(t *testing.T) {
	for _, k := range noKinds() {
		if n, e := num.Bytes(k); n != 0 || e != api.ErrForm {
			t.Errorf("Bytes(%d): %d, %d", k, n, e)
		}
		if is, e := num.Signed(k); is || e != api.ErrForm {
			t.Errorf("Signed(%d): %v, %d", k, is, e)
		}
		for _, n := range []int64{0, 1, -1, 255, most, least} {
			if x, e := num.Fit(k, n); x != 0 || e != api.ErrForm {
				t.Errorf("Fit(%d, %d): %d, %d", k, n, x, e)
			}
		}
	}
}

// TestFitAtLimits is of P1.1: a kind's own numbers stay, those just outside go round.
func TestFitAtLimits(t *testing.T) {
	for _, k := range kinds() {
		for _, c := range [][2]int64{{k.low, k.low}, {k.high, k.high}, {k.low + 1, k.low + 1}, {k.high - 1, k.high - 1}, {0, 0}, {1, 1}, {k.low - 1, k.high}, {k.high + 1, k.low}} {
			if x, e := num.Fit(k.kind, c[0]); x != c[1] || e != api.OK {
				t.Errorf("Fit(%s, %d): %d, %d; should be %d", k.name, c[0], x, e, c[1])
			}
		}
	}
}

// TestFitSome is of P1.1: numbers worked out by hand.
func TestFitSome(t *testing.T) {
	for _, c := range []struct {
		kind    int
		n, want int64
	}{
		{api.TU8, -1, 255},
		{api.TI8, 255, -1},
		{api.TI8, 0x180, -128},
		{api.TU8, 0x1ff, 255},
		{api.TI16, 0x18000, -32768},
		{api.TU16, -1, 65535},
		{api.TI32, 0x1ffffffff, -1},
		{api.TI32, 0x180000000, -2147483648},
		{api.TU32, -1, 4294967295},
		{api.TU32, least, 0},
		{api.TI32, least + 7, 7},
		{api.TU64, -1, -1},
		{api.TU64, least, least},
		{api.TI64, least, least},
		{api.TI64, most, most},
	} {
		if x, e := num.Fit(c.kind, c.n); x != c.want || e != api.OK {
			t.Errorf("Fit(%d, %d): %d, %d; should be %d", c.kind, c.n, x, e, c.want)
		}
	}
}

// lowest tells the lowest bits of n as a number, as arithmetic has it.
func lowest(n int64, bits uint, signed bool) int64 {
	all := new(big.Int).Lsh(big.NewInt(1), bits)
	x := new(big.Int).Mod(big.NewInt(n), all)
	if signed && x.Bit(int(bits)-1) == 1 {
		x.Sub(x, all)
	}
	return x.Int64()
}

// TestFitAll is of P1.1: Fit against arithmetic of any length.
func TestFitAll(t *testing.T) {
	for _, k := range kinds() {
		for _, n := range edges() {
			want := n
			if k.bytes < 8 {
				want = lowest(n, uint(8*k.bytes), k.signed)
			}
			if x, e := num.Fit(k.kind, n); x != want || e != api.OK {
				t.Errorf("Fit(%s, %d): %d, %d; should be %d", k.name, n, x, e, want)
			}
		}
	}
}

// call is one call of Bin.
type call struct {
	op   int
	a, b int64
}

// checkBin holds Bin against what is wanted of it.
func checkBin(t *testing.T, want map[call]int64) {
	t.Helper()
	for c, n := range want {
		if x, e := num.Bin(c.op, c.a, c.b); x != n || e != api.OK {
			t.Errorf("Bin(%d, %d, %d): %d, %d; should be %d", c.op, c.a, c.b, x, e, n)
		}
	}
}

// TestDivideByNothing is of P1.2: by 0 all ones, and the first number.
func TestDivideByNothing(t *testing.T) {
	for _, a := range edges() {
		checkBin(t, map[call]int64{
			{api.RDiv, a, 0}: -1, {api.RDivU, a, 0}: -1, {api.RRem, a, 0}: a, {api.RRemU, a, 0}: a,
		})
	}
}

// TestDivide is of P1.2: quotients go to 0, rests have the first number's sign, the least
// by -1 stays, and without signs the highest bit counts.
func TestDivide(t *testing.T) {
	checkBin(t, map[call]int64{
		{api.RDiv, 7, 2}: 3, {api.RDiv, -7, 2}: -3, {api.RDiv, 7, -2}: -3, {api.RDiv, -7, -2}: 3,
		{api.RRem, 7, 2}: 1, {api.RRem, -7, 2}: -1, {api.RRem, 7, -2}: 1, {api.RRem, -7, -2}: -1,
		{api.RDiv, least, -1}: least, {api.RRem, least, -1}: 0,
		{api.RDiv, least + 1, -1}: most, {api.RRem, least + 1, -1}: 0,
		{api.RDiv, least, 1}: least, {api.RRem, least, 1}: 0,
		{api.RDiv, -1, least}: 0, {api.RRem, -1, least}: -1,
		{api.RDiv, least, least}: 1, {api.RRem, least, least}: 0,
		{api.RDivU, least, -1}: 0, {api.RRemU, least, -1}: least,
		{api.RDivU, -1, least}: 1, {api.RRemU, -1, least}: most,
		{api.RDivU, -1, 2}: most, {api.RRemU, -1, 2}: 1,
		{api.RDivU, -1, 1}: -1, {api.RRemU, -1, 10}: 5,
		{api.RDivU, 7, -2}: 0, {api.RRemU, 7, -2}: 7,
		{api.RDivU, least, 2}: 1 << 62, {api.RDivU, -1, -1}: 1,
	})
}

// TestRound is of P1.2: sums, differences and products go round at 2^64.
func TestRound(t *testing.T) {
	checkBin(t, map[call]int64{
		{api.RAdd, 2, 3}: 5, {api.RAdd, most, 1}: least, {api.RAdd, least, -1}: most, {api.RAdd, least, least}: 0, {api.RAdd, -1, 1}: 0,
		{api.RSub, 2, 3}: -1, {api.RSub, least, 1}: most, {api.RSub, 0, least}: least, {api.RSub, most, -1}: least,
		{api.RMul, -6, 7}: -42, {api.RMul, least, -1}: least, {api.RMul, most, 2}: -2, {api.RMul, 1 << 32, 1 << 32}: 0, {api.RMul, most, most}: 1, {api.RMul, 1 << 62, 2}: least,
	})
}

// TestShift is of P1.2: counts are told modulo 64, whatever their sign and size.
func TestShift(t *testing.T) {
	for _, b := range []int64{4, 68, 128 + 4, 4 - 64, 4 - 128, least + 4, most - 59, 1<<32 + 4, 1<<62 + 4, 256 + 4} {
		checkBin(t, map[call]int64{
			{api.RShl, 0x0123456789abcdef, b}: 0x123456789abcdef0,
			{api.RShl, -1, b}:                 -16,
			{api.RShr, -1, b}:                 0x0fffffffffffffff,
			{api.RShr, 0x7fffffffffffffff, b}: 0x07ffffffffffffff,
			{api.RSar, -1, b}:                 -1,
			{api.RSar, -17, b}:                -2,
			{api.RSar, 0x7fffffffffffffff, b}: 0x07ffffffffffffff,
		})
	}
	for _, b := range []int64{0, 64, -64, 128, least, 1 << 32} {
		checkBin(t, map[call]int64{{api.RShl, -5, b}: -5, {api.RShr, -5, b}: -5, {api.RSar, -5, b}: -5})
	}
	for _, b := range []int64{63, -1, 127, most, 255, -65} {
		checkBin(t, map[call]int64{{api.RShl, 3, b}: least, {api.RShr, -2, b}: 1, {api.RSar, -2, b}: -1, {api.RSar, most, b}: 0, {api.RSar, least, b}: -1, {api.RShr, least, b}: 1})
	}
}

// TestBits is of P1.2: each of four pairs of bits, at both ends of a number.
func TestBits(t *testing.T) {
	const a, b = -0x7ffffffffffffff4, 0x700000000000000a // 8..c and 7..a
	checkBin(t, map[call]int64{
		{api.RAnd, a, b}: 8, {api.ROr, a, b}: -0xffffffffffffff2, {api.RXor, a, b}: -0xffffffffffffffa,
		{api.RAnd, -1, 5}: 5, {api.ROr, -8, 5}: -3, {api.RXor, -1, 5}: -6, {api.RXor, least, least}: 0, {api.RAnd, least, -1}: least, {api.ROr, least, most}: -1,
	})
}

// TestCompare is of P1.2: with signs and without, below, same and above.
func TestCompare(t *testing.T) {
	for _, c := range []struct {
		a, b                   int64
		eq, ne, lt, ltU, le, x int64
	}{
		{1, 2, 0, 1, 1, 1, 1, 1}, {2, 2, 1, 0, 0, 0, 1, 1}, {3, 2, 0, 1, 0, 0, 0, 0},
		{-1, 1, 0, 1, 1, 0, 1, 0}, {1, -1, 0, 1, 0, 1, 0, 1}, {-2, -1, 0, 1, 1, 1, 1, 1}, {-1, -2, 0, 1, 0, 0, 0, 0},
		{least, most, 0, 1, 1, 0, 1, 0}, {most, least, 0, 1, 0, 1, 0, 1}, {least, least, 1, 0, 0, 0, 1, 1}, {-1, -1, 1, 0, 0, 0, 1, 1},
		{1 << 32, 0, 0, 1, 0, 0, 0, 0}, {0, 1 << 32, 0, 1, 1, 1, 1, 1}, {least, 0, 0, 1, 1, 0, 1, 0}, {0, 0, 1, 0, 0, 0, 1, 1},
	} {
		checkBin(t, map[call]int64{
			{api.REq, c.a, c.b}: c.eq, {api.RNe, c.a, c.b}: c.ne, {api.RLt, c.a, c.b}: c.lt,
			{api.RLtU, c.a, c.b}: c.ltU, {api.RLe, c.a, c.b}: c.le, {api.RLeU, c.a, c.b}: c.x,
		})
	}
}

// bare tells n without a sign.
func bare(n int64) *big.Int {
	return new(big.Int).SetUint64(uint64(n))
}

// one tells 1, where something holds.
func one(is bool) *big.Int {
	if is {
		return big.NewInt(1)
	}
	return new(big.Int)
}

// exact tells what Bin should tell, up to a multiple of 2^64, as arithmetic of any length has it.
func exact(op int, a, b int64) *big.Int {
	x, y, u, v, z := big.NewInt(a), big.NewInt(b), bare(a), bare(b), new(big.Int)
	if b == 0 && (op == api.RDiv || op == api.RDivU) {
		return big.NewInt(-1)
	}
	if b == 0 && (op == api.RRem || op == api.RRemU) {
		return x
	}
	count := uint(new(big.Int).Mod(y, big.NewInt(64)).Int64())
	switch op {
	case api.RAdd:
		return z.Add(x, y)
	case api.RSub:
		return z.Sub(x, y)
	case api.RMul:
		return z.Mul(x, y)
	case api.RDiv:
		return z.Quo(x, y)
	case api.RRem:
		return z.Rem(x, y)
	case api.RDivU:
		return z.Quo(u, v)
	case api.RRemU:
		return z.Rem(u, v)
	case api.RAnd:
		return z.And(u, v)
	case api.ROr:
		return z.Or(u, v)
	case api.RXor:
		return z.Xor(u, v)
	case api.RShl:
		return z.Lsh(u, count)
	case api.RShr:
		return z.Rsh(u, count)
	case api.RSar:
		return z.Rsh(x, count)
	}
	return compared(op, x.Cmp(y), u.Cmp(v))
}

// compared tells 1 or 0, by how two numbers lie with signs, and without.
func compared(op, signed, bare int) *big.Int {
	switch op {
	case api.REq:
		return one(signed == 0)
	case api.RNe:
		return one(signed != 0)
	case api.RLt:
		return one(signed < 0)
	case api.RLtU:
		return one(bare < 0)
	case api.RLe:
		return one(signed <= 0)
	}
	return one(bare <= 0)
}

// TestBinAll is of P1.2: each op against arithmetic of any length.
func TestBinAll(t *testing.T) {
	all := new(big.Int).Lsh(big.NewInt(1), 64)
	for _, p := range pairs() {
		for op := api.RAdd; op <= api.RLeU; op++ {
			want := int64(new(big.Int).Mod(exact(op, p[0], p[1]), all).Uint64())
			if x, e := num.Bin(op, p[0], p[1]); x != want || e != api.OK {
				t.Fatalf("Bin(%d, %d, %d): %d, %d; should be %d", op, p[0], p[1], x, e, want)
			}
		}
	}
}

// strange holds numbers that are far from every op, or are one in their lowest bits alone.
func strange() []int {
	return []int{math.MinInt, math.MinInt + api.RAdd, math.MaxInt, 256 + api.RAdd, 65536 + api.RExt8, 1<<32 + api.RDiv, 1<<32 + api.RExt16, -api.RAdd, -api.RExt8}
}

// TestNoBin is of P1.2: what is none of its ops is refused, also Un's.
func TestNoBin(t *testing.T) {
	ops := strange()
	for op := -100; op <= 300; op++ {
		if op < api.RAdd || op > api.RLeU {
			ops = append(ops, op)
		}
	}
	for _, op := range ops {
		for _, p := range [][2]int64{{6, 3}, {6, 0}, {least, -1}, {1, -1}, {0, 0}} {
			if x, e := num.Bin(op, p[0], p[1]); x != 0 || e != api.ErrForm {
				t.Errorf("Bin(%d, %d, %d): %d, %d", op, p[0], p[1], x, e)
			}
		}
	}
}

// ext is what is to be told of an op of one number.
type ext struct {
	op     int
	bits   uint
	signed bool
}

func exts() []ext {
	return []ext{
		{api.RExt8, 8, true}, {api.RExt16, 16, true}, {api.RExt32, 32, true},
		{api.RZext8, 8, false}, {api.RZext16, 16, false}, {api.RZext32, 32, false},
	}
}

// TestUnSome is of P1.2: numbers worked out by hand.
func TestUnSome(t *testing.T) {
	const n = -0x7f6f5f4f3f2f1f10 // 80 90 a0 b0 c0 d0 e0 f0
	for _, c := range []struct {
		op      int
		n, want int64
	}{
		{api.RExt8, n, -16}, {api.RExt16, n, -0x1f10}, {api.RExt32, n, -0x3f2f1f10},
		{api.RZext8, n, 0xf0}, {api.RZext16, n, 0xe0f0}, {api.RZext32, n, 0xc0d0e0f0},
		{api.RExt8, 127, 127}, {api.RExt8, 128, -128}, {api.RExt8, -129, 127},
		{api.RExt16, 32767, 32767}, {api.RExt16, 32768, -32768}, {api.RExt16, -32769, 32767},
		{api.RExt32, math.MaxInt32, math.MaxInt32}, {api.RExt32, 1 << 31, math.MinInt32}, {api.RExt32, -1<<31 - 1, math.MaxInt32},
		{api.RZext8, 255, 255}, {api.RZext8, 256, 0}, {api.RZext8, -1, 255},
		{api.RZext16, 65535, 65535}, {api.RZext16, 65536, 0}, {api.RZext16, -1, 65535},
		{api.RZext32, 1<<32 - 1, 1<<32 - 1}, {api.RZext32, 1 << 32, 0}, {api.RZext32, -1, 1<<32 - 1},
	} {
		if x, e := num.Un(c.op, c.n); x != c.want || e != api.OK {
			t.Errorf("Un(%d, %d): %d, %d; should be %d", c.op, c.n, x, e, c.want)
		}
	}
}

// TestUnAll is of P1.2: Un against arithmetic of any length.
func TestUnAll(t *testing.T) {
	for _, c := range exts() {
		for _, n := range edges() {
			if x, e := num.Un(c.op, n); x != lowest(n, c.bits, c.signed) || e != api.OK {
				t.Errorf("Un(%d, %d): %d, %d", c.op, n, x, e)
			}
		}
	}
}

// TestNoUn is of P1.2: what is none of its ops is refused, also Bin's.
func TestNoUn(t *testing.T) {
	ops := strange()
	for op := -100; op <= 300; op++ {
		if op < api.RExt8 || op > api.RZext32 {
			ops = append(ops, op)
		}
	}
	for _, op := range ops {
		for _, n := range []int64{0, 6, -1, least} {
			if x, e := num.Un(op, n); x != 0 || e != api.ErrForm {
				t.Errorf("Un(%d, %d): %d, %d", op, n, x, e)
			}
		}
	}
}

// TestUnTwice is P1.3.
func TestUnTwice(t *testing.T) {
	for _, c := range exts() {
		for _, p := range pairs() {
			once, e := num.Un(c.op, p[0])
			twice, f := num.Un(c.op, once)
			if twice != once || e != api.OK || f != api.OK {
				t.Fatalf("Un(%d) of %d: %d, %d, then %d, %d", c.op, p[0], once, e, twice, f)
			}
		}
	}
}

// TestSameAgain is of R1: what was told before, errors too, changes nothing.
func TestSameAgain(t *testing.T) {
	for range 3 {
		a, e := num.Fit(api.TI8, 200)
		_, f := num.Fit(api.TVoid, 200)
		b, g := num.Bin(api.RDiv, 9, 0)
		_, h := num.Bin(api.RNone, 9, 0)
		c, i := num.Un(api.RZext8, -1)
		if a != -56 || b != -1 || c != 255 || e != api.OK || f != api.ErrForm || g != api.OK || h != api.ErrForm || i != api.OK {
			t.Fatalf("%d, %d, %d", a, b, c)
		}
	}
}
