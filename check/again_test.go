package check_test

import (
	"cmp"
	"slices"
	"strings"
	"testing"
	"unsafe"

	"gantlet/api"
	"gantlet/check"
	"gantlet/parse"
)

// samples are programs that check, with all that there is of the language; blanks part their tokens.
func samples() []string {
	return []string{
		"int main ( ) { return 1 ; }",
		"int x ; unsigned char a [ 3 ] = { 1 , - 2 } ; void * p = 0 ; int main ( ) { x = a [ 1 ] ; p = p ; * a += 3 ; return sizeof ( int * ) ; } long * q [ 2 ] = { 0 , 0 } ;",
		"long f ( int a , char * b , void * * c , unsigned long d ) { while ( a -- ) { * b ++ = ( char ) d >> 1 ; if ( ! * c ) break ; else continue ; } return b - b ; } int main ( ) { char s [ 9 ] ; put ( f ( 1 , s , 0 , sizeof ( long ) ) ) ; }",
		"int main ( ) { int i ; int i2 = 3 ; for ( i = 0 ; i < 9 ; i ++ ) { int i = i2 ; { long i = i2 ; i ; } } switch ( i & 3 ) { case 0 : case - 1 : put ( 1 ) ; default : exit ( get ( ) ) ; } do ; while ( i -- ) ; }",
		"void g ( ) { again : if ( get ( ) ) goto again ; else goto out ; for ( ; ; ) ; out : return ; } int main ( ) { g ( ) ; int * p = 0 ; int * * r = & p ; int * * * t = & r ; * * * t = p && * r == 0 || t != 0 ? p [ 1 ] : - ~ 7 ; return * p ; }",
		"int main ( ) { unsigned int u = 4294967295 ; short s = u << 2 ; u ^= s | 3 ; s = u % 7 ; long l = s ? u : s ; l *= ( unsigned short ) l ; return l > u ; } int h ( int main , int x ) { int h ; return main + x ; }",
		"char c ; int even ( int n ) { if ( n == 0 ) return 1 ; return odd ( n - 1 ) ; } int odd ( int n ) { return n ? even ( n - 1 ) : 0 ; } int main ( void ) { c = even ( 7 ) ; ; { } return c ; }",
	}
}

// all goes through samples, through faulty programs, and through others that are made of samples.
func all(t *testing.T, one func(u api.Unit)) {
	t.Helper()
	below := mix(2463534242)
	var tokens []string
	for _, s := range samples() {
		tokens = append(tokens, strings.Fields(s)...)
		one(parsed(t, s))
	}
	faults := spots()
	for i, x := range faults {
		y := faults[(i*7+3)%len(faults)]
		one(parsed(t, strings.ReplaceAll(inMain(spotHead, "goto M;{"+x.s+"}{"+y.s+"}"), "`", " ")))
	}
	n := 0
	for _, s := range samples() {
		for range 600 {
			l := strings.Fields(s)
			for range 1 + below(3) {
				i, token := below(len(l)), tokens[below(len(tokens))]
				if isWord(token) == isWord(l[i]) {
					l[i] = token
				}
			}
			if u, f := parse.Parse(strings.Join(l, " ")); f.Err == 0 {
				n++
				one(u)
			}
		}
	}
	if n < 1000 {
		t.Errorf("%d", n)
	}
}

// isWord tells whether a token is a name, a word or a number.
func isWord(token string) bool {
	return token[0] >= '0' && token[0] <= '9' || token[0] >= 'a' && token[0] <= 'z'
}

// TestAgain is P4.2: what is checked is the same, checked again; and nothing of it but what a
// check fills in is another one than that of what was parsed.
func TestAgain(t *testing.T) {
	right, faulty := 0, map[int]int{}
	all(t, func(u api.Unit) {
		once, f := check.Check(u)
		if f.Err != 0 {
			faulty[f.Err]++
			return
		}
		right++
		twice, f := check.Check(once)
		if f != (api.Fault{}) || whole(twice) != whole(once) {
			t.Errorf("%+v:\n%s\n%s", f, whole(once), whole(twice))
		}
		if bare(once) != bare(u) {
			t.Errorf("%s\n%s", bare(once), bare(u))
		}
	})
	if right < 100 || faulty[int(api.ErrName)] < 100 || faulty[int(api.ErrType)] < 80 || faulty[int(api.ErrPlace)] < 20 || faulty[int(api.ErrLimit)] < 1 || len(faulty) > 4 {
		t.Errorf("%d, %v", right, faulty)
	}
}

// TestStays is of R1 and R2: what is handed in stays as it was, and tells the same each time.
func TestStays(t *testing.T) {
	all(t, func(u api.Unit) {
		before := whole(u)
		v, f := check.Check(u)
		w, g := check.Check(u)
		if whole(u) != before || whole(v) != whole(w) || f != g {
			t.Errorf("%s\n%s: %+v, %+v\n%s\n%s", before, whole(u), f, g, whole(v), whole(w))
		}
		before = whole(v)
		if check.Check(v); whole(v) != before {
			t.Errorf("%s\n%s", before, whole(v))
		}
	})
}

// TestPlacesMoved is of P4.1: whatever each Pos is, all is the same but for that.
func TestPlacesMoved(t *testing.T) {
	rules := []func(int) int{
		func(int) int { return 0 }, func(int) int { return 77 }, func(int) int { return -1 }, func(pos int) int { return 5000 - pos }, func(pos int) int { return pos*7919%2003 - 1000 }, func(pos int) int { return pos << 40 },
	}
	all(t, func(u api.Unit) {
		v, f := check.Check(u)
		_, missing := check.Check(placed(u, func(int) int { return 1 }))
		for i, rule := range rules {
			w, g := check.Check(placed(u, rule))
			want := f
			if f.Err != 0 && missing.Pos != 0 {
				want.Pos = rule(f.Pos)
			}
			if g != want || f.Err == 0 && whole(w) != whole(placed(v, rule)) {
				t.Errorf("%d: %+v, not %+v:\n%s\n%s", i, g, want, whole(w), whole(u))
			}
		}
	})
}

// TestFilledIn is of P4.1: what stands already where a check fills in tells nothing.
func TestFilledIn(t *testing.T) {
	for _, s := range samples() {
		u := parsed(t, s)
		want, _ := check.Check(u)
		for i := range u.Funcs {
			u.Funcs[i].Locals = []api.Decl{{Name: "y", Type: api.Type{Kind: 77}}}
			spoil(u.Funcs[i].Body)
		}
		if got, f := check.Check(u); f != (api.Fault{}) || whole(got) != whole(want) {
			t.Errorf("%q: %+v, %s; should be %s", s, f, whole(got), whole(want))
		}
	}
}

// spoil writes into all that a check fills in.
func spoil(l []api.Stmt) {
	for i := range l {
		if l[i].Op == api.SDecl {
			l[i].N = 55
		}
		spoilExprs(l[i].Expr)
		spoil(l[i].Body)
	}
}

func spoilExprs(l []api.Expr) {
	for i := range l {
		e := &l[i]
		if e.Op != api.ECast && e.Op != api.ESize && e.Op != api.ENone {
			e.Type = api.Type{Kind: -3, Ptr: 9, Len: 4}
		}
		if e.Op == api.EName || e.Op == api.ECall || e.Op == api.ESize {
			e.N = -99
		}
		spoilExprs(e.Kids)
	}
}

// span is the memory of a list, with its spare room.
type span struct {
	begin, end uintptr
}

func spanOf[T any](l []T) []span {
	if cap(l) == 0 {
		return nil
	}
	begin := uintptr(unsafe.Pointer(unsafe.SliceData(l)))
	return []span{{begin, begin + uintptr(cap(l))*unsafe.Sizeof(*new(T))}}
}

func declSpans(l []api.Decl) []span {
	s := spanOf(l)
	for _, d := range l {
		s = append(s, spanOf(d.Init)...)
	}
	return s
}

// spans tells the memory of all lists of a unit.
func spans(u api.Unit) []span {
	l := slices.Concat(declSpans(u.Globals), spanOf(u.Funcs))
	for _, f := range u.Funcs {
		l = slices.Concat(l, declSpans(f.Params), declSpans(f.Locals), stmtSpans(f.Body))
	}
	return l
}

func stmtSpans(body []api.Stmt) []span {
	l := spanOf(body)
	for _, s := range body {
		l = slices.Concat(l, exprSpans(s.Expr), stmtSpans(s.Body))
	}
	return l
}

func exprSpans(exprs []api.Expr) []span {
	l := spanOf(exprs)
	for _, e := range exprs {
		l = append(l, exprSpans(e.Kids)...)
	}
	return l
}

// TestNewMemory is of R2: no two lists share memory, of what is handed in, or of what is told.
func TestNewMemory(t *testing.T) {
	for _, s := range samples() {
		u := parsed(t, s)
		v, _ := check.Check(u)
		w, _ := check.Check(u)
		x, _ := check.Check(v)
		l := slices.Concat(spans(u), spans(v), spans(w), spans(x))
		slices.SortFunc(l, func(a, b span) int { return cmp.Compare(a.begin, b.begin) })
		for i := 1; i < len(l); i++ {
			if l[i].begin < l[i-1].end {
				t.Errorf("%q: two lists share memory", s)
			}
		}
	}
}
