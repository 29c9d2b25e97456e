package checked_test

import (
	"testing"

	"gantlet/api"
	"gantlet/check"
	"gantlet/checked"
	"gantlet/parse"
)

func unit(t *testing.T, s string) api.Unit {
	t.Helper()
	u, f := parse.Parse(s)
	if f.Err != 0 {
		t.Fatalf("%q: %v", s, f)
	}
	return u
}

// TestUnit: just what check tells of itself is a checked unit, and it is told in new memory.
func TestUnit(t *testing.T) {
	raw := unit(t, "int x[2]={1};int main(){return x[1];}")
	if v, ok := checked.Unit(raw); ok || v.Funcs != nil || v.Globals != nil {
		t.Errorf("%v", v)
	}
	u, _ := check.Check(raw)
	v, ok := checked.Unit(u)
	if !ok || len(v.Funcs) != 1 {
		t.Fatalf("%v", v)
	}
	v.Globals[0].Init[0] = 5
	v.Funcs[0].Body[0].Expr[0].N = 7
	if u.Globals[0].Init[0] != 1 || u.Funcs[0].Body[0].Expr[0].N != 0 {
		t.Errorf("%v", u)
	}
	if _, ok := checked.Unit(v); ok {
		t.Error("changed, but taken")
	}
}

// TestTypes: what is asked of types, of each kind.
func TestTypes(t *testing.T) {
	for kind := api.TI8; kind <= api.TU64; kind++ {
		at := api.Type{Kind: kind}
		bytes := []int{1, 1, 2, 2, 4, 4, 8, 8}[kind-api.TI8]
		promoted := max(kind, api.TI32)
		if checked.Bytes(at) != bytes || checked.Bits(kind) != int64(8*bytes) || checked.Signed(kind) != (kind%2 == 1) || checked.Promoted(at) != promoted || checked.IsPointer(at) {
			t.Errorf("%d", kind)
		}
		at.Ptr, at.Len = 1, 3
		if checked.Bytes(at) != 8 || checked.Elements(at) != 3 || checked.Target(at).Ptr != 0 || checked.Counted(api.Expr{Type: at}) != (api.Type{Kind: kind, Ptr: 2}) {
			t.Errorf("%d", kind)
		}
	}
	if checked.Common(api.Type{Kind: api.TI64}, api.Type{Kind: api.TU32}) != api.TI64 || checked.Common(api.Type{Kind: api.TI8}, api.Type{Kind: api.TU16}) != api.TI32 {
		t.Error("common")
	}
	size := api.Expr{Op: api.ESize, Type: api.Type{Kind: api.TI8}}
	if checked.Counted(size) != (api.Type{Kind: api.TU64}) || checked.Elements(api.Type{Kind: api.TI8}) != 1 || checked.Fit(api.TU8, -1) != 255 || checked.Fit(api.TVoid, 7) != 0 || checked.Bits(api.TVoid) != 0 {
		t.Error("others")
	}
}

// TestOps: num's ops of numbers with a sign and without.
func TestOps(t *testing.T) {
	for op, want := range map[int][2]int{api.EDiv: {api.RDiv, api.RDivU}, api.EMod: {api.RRem, api.RRemU}, api.EShr: {api.RSar, api.RShr}, api.EGt: {api.RLt, api.RLtU}, api.EAdd: {api.RAdd, api.RAdd}} {
		if checked.Op(op, api.TI32) != want[0] || checked.Op(op, api.TU64) != want[1] || checked.IsTurned(op) != (op == api.EGt) {
			t.Errorf("%d", op)
		}
	}
}

// TestRow: where the marks of a function are, and what its moves do.
func TestRow(t *testing.T) {
	u, f := check.Check(unit(t, "int main(){x:while(1){switch(2){case 4294967297:break;default:goto x;}}}"))
	if f.Err != 0 {
		t.Fatalf("%v", f)
	}
	r := checked.RowOf(u.Funcs[0])
	does := ""
	for _, m := range r.Moves {
		does += string("btmjuicr"[m.Does])
	}
	if does != "bbubbcbbbjbbjj" {
		t.Errorf("%q", does)
	}
	for k, want := range map[checked.Mark]int{
		{What: checked.AtLabel, Name: "x"}:      0,
		{What: checked.AtNext, Of: 1}:           2,
		{What: checked.AtCase, Of: 2, Value: 1}: 7,
		{What: checked.AtDefault, Of: 2}:        10,
		{What: checked.AtEnd, Of: 2}:            13,
		{What: checked.AtEnd, Of: 1}:            14,
	} {
		if at, there := r.Marks[k]; !there || at != want {
			t.Errorf("%v: %d", k, at)
		}
	}
	if !r.MayEnd() || !r.Main || len(r.Params) > 0 || len(r.Locals) > 0 {
		t.Errorf("%v", r)
	}
}
