package parse_test

import (
	"cmp"
	"slices"
	"strings"
	"testing"
	"unsafe"

	"gantlet/api"
	"gantlet/parse"
)

// span is the memory of a list, with its spare room.
type span struct {
	begin, end uintptr
}

func spanOf[T any](l []T) []span {
	if cap(l) == 0 {
		return nil
	}
	begin := uintptr(unsafe.Pointer(unsafe.SliceData(l)))
	return []span{{begin, begin + uintptr(cap(l))*unsafe.Sizeof(*new(T))}}
}

// spans tells the memory of all lists of a unit.
func spans(u api.Unit) []span {
	l := slices.Concat(spanOf(u.Globals), spanOf(u.Funcs))
	for _, d := range u.Globals {
		l = append(l, spanOf(d.Init)...)
	}
	for _, f := range u.Funcs {
		l = slices.Concat(l, spanOf(f.Params), spanOf(f.Locals), stmtSpans(f.Body))
	}
	return l
}

func stmtSpans(body []api.Stmt) []span {
	l := spanOf(body)
	for _, s := range body {
		l = slices.Concat(l, exprSpans(s.Expr), stmtSpans(s.Body))
	}
	return l
}

func exprSpans(exprs []api.Expr) []span {
	l := spanOf(exprs)
	for _, e := range exprs {
		l = append(l, exprSpans(e.Kids)...)
	}
	return l
}

// TestNewMemory is of R1 and R2: a text tells the same unit each time, and no two lists
// share memory, of one unit or of two.
func TestNewMemory(t *testing.T) {
	for _, s := range append(samples(), strings.Repeat("int x;", api.MaxGlobals)+strings.Repeat("int f(int a,int b,int c){a;b;c;f(a,b,c);}", api.MaxFuncs)) {
		u, v := taken(t, s), taken(t, s)
		if showUnit(u) != showUnit(v) {
			t.Errorf("%q: %s; %s", s, showUnit(u), showUnit(v))
		}
		l := slices.Concat(spans(u), spans(v))
		slices.SortFunc(l, func(a, b span) int { return cmp.Compare(a.begin, b.begin) })
		for i := 1; i < len(l); i++ {
			if l[i].begin < l[i-1].end {
				t.Errorf("%q: two lists share memory", s)
			}
		}
	}
}

// TestTextChangesNothing is of R1 and R2: Text leaves a unit as it is, and tells the same each time.
func TestTextChangesNothing(t *testing.T) {
	for _, s := range samples() {
		u := taken(t, s)
		kept := showUnit(u)
		first, err := parse.Text(u)
		second, errAgain := parse.Text(u)
		if first != second || err != api.OK || errAgain != api.OK || showUnit(u) != kept {
			t.Errorf("%q: %q, %q; %s; should be %s", s, first, second, showUnit(u), kept)
		}
	}
}

// TestBlanksInFaults is P3.3: a fault is told at the same token, whatever blanks there are.
func TestBlanksInFaults(t *testing.T) {
	below := mix(1181783497276652981)
	all := allTokens()
	faults := 0
	for _, s := range samples() {
		tokens := strings.Fields(s)
		for range 200 {
			l := slices.Clone(tokens)
			for range 1 + below(2) {
				l[below(len(l))] = all[below(len(all))]
			}
			first, places := layout(l, below)
			second, others := layout(l, below)
			_, f := parse.Parse(first)
			_, g := parse.Parse(second)
			i, j := slices.Index(append(places, len(first)), f.Pos), slices.Index(append(others, len(second)), g.Pos)
			if f.Err != g.Err || f.Err != 0 && (i != j || i < 0) {
				t.Errorf("%q: %+v; %q: %+v", first, f, second, g)
			}
			faults += f.Err
		}
	}
	if faults < 1000 {
		t.Error(faults)
	}
}
