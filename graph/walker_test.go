package graph_test

import (
	"gantlet/api"
)

// A second machine, made in another way: objects are rows of bytes, with places that lie over
// them; places point to their objects; each end is a panic.

// thing is an object. Where a place was stored, it lies over the bytes.
type thing struct {
	size   int
	bytes  []byte
	places map[int64]value
	gone   bool
}

// value is a number, or a place in a thing.
type value struct {
	n  int64
	in *thing
}

// ending is what is thrown where a program ends.
type ending struct{}

type walk struct {
	p       api.Prog
	in      []int64
	fuel    int
	calls   int
	globals []*thing
	o       api.Outcome
}

type frame struct {
	*walk
	temps  map[int64]value
	locals []*thing
}

func newThing(o api.Obj) *thing {
	x := &thing{size: o.Size, bytes: make([]byte, o.Size*o.Count), places: map[int64]value{}}
	for i, n := range o.Init {
		x.fill(int64(i*o.Size), n)
	}
	return x
}

// fill stores a number's lowest bytes, the lowest first.
func (x *thing) fill(at, n int64) {
	delete(x.places, at)
	for i := range x.size {
		x.bytes[int(at)+i] = byte(n >> (8 * i))
	}
}

// walked tells how a program that may be ends.
func walked(p api.Prog, in []int64, fuel int) (o api.Outcome) {
	w := &walk{p: p, in: in, fuel: fuel}
	defer func() {
		if _, is := recover().(ending); !is {
			panic("no ending")
		}
		o = w.o
	}()
	for _, d := range p.Globals {
		w.globals = append(w.globals, newThing(d))
	}
	w.exit(w.call(p.Main, nil))
	return o
}

func (w *walk) end(kind int, code int64) {
	w.o.Kind, w.o.Code = kind, code
	if kind == api.OStuck {
		w.o = api.Outcome{Kind: kind}
	}
	panic(ending{})
}

func (w *walk) need(holds bool) {
	if !holds {
		w.end(api.OStuck, 0)
	}
}

func (w *walk) burn() {
	if w.o.Steps == w.fuel {
		w.end(api.OFuel, 0)
	}
	w.o.Steps++
}

func (w *walk) exit(v value) {
	w.need(v.in == nil)
	w.end(api.OExit, v.n)
}

func (w *walk) call(n int, args []value) value {
	if w.calls == 64 {
		w.end(api.OOver, 0)
	}
	w.calls++
	w.o.Deep = max(w.o.Deep, w.calls)
	f := &frame{walk: w, temps: map[int64]value{}}
	for i, v := range args {
		f.temps[int64(i)] = v
	}
	for _, o := range w.p.Funcs[n].Locals {
		for range o.Count {
			w.burn()
		}
		f.locals = append(f.locals, newThing(o))
	}
	v := f.from(w.p.Funcs[n].Blocks, 0)
	for _, x := range f.locals {
		x.gone = true
	}
	w.calls--
	return v
}

func (f *frame) from(l []api.Block, at int) value {
again:
	for _, s := range l[at].Steps {
		f.burn()
		f.step(s)
	}
	f.burn()
	next, otherwise := l[at].Next, l[at].Else
	switch l[at].End {
	case api.EndJump:
		at = next
		goto again
	case api.EndBranch:
		v := f.value(l[at].Cond)
		if at = next; v.in == nil && v.n == 0 {
			at = otherwise
		}
		goto again
	}
	return f.value(l[at].Cond)
}

func (f *frame) step(s api.Step) {
	var told []value
	for _, t := range s.Args {
		told = append(told, f.value(t))
	}
	switch s.Op {
	case api.GSet:
		f.temps[int64(s.To)] = told[0]
	case api.GStore:
		f.element(told[0], s.Size)
		if told[1].in == nil {
			told[0].in.fill(told[0].n, told[1].n)
			return
		}
		f.need(s.Size == 8)
		told[0].in.places[told[0].n] = told[1]
	case api.GCall:
		f.temps[int64(s.To)] = f.call(s.Fn, told)
	case api.GPut:
		f.need(told[0].in == nil)
		f.o.Out = append(f.o.Out, told[0].n)
	case api.GGet:
		var n int64
		if len(f.in) > 0 {
			n, f.in = f.in[0], f.in[1:]
		}
		f.temps[int64(s.To)] = value{n: n}
	case api.GExit:
		f.exit(told[0])
	}
}

// element is stuck where there is no element of such a size.
func (f *frame) element(p value, size int) {
	f.need(p.in != nil)
	f.need(!p.in.gone && p.in.size == size && p.n%int64(size) == 0 && p.n < int64(len(p.in.bytes)))
}

func (f *frame) value(t api.Tree) value {
	switch t.Op {
	case api.RCon:
		return value{n: t.N}
	case api.RTmp:
		return f.temps[t.N]
	case api.RLoc:
		return value{in: f.locals[t.N]}
	case api.RGlo:
		return value{in: f.globals[t.N]}
	case api.RLoad8, api.RLoadU8:
		return f.loaded(t, 1, t.Op == api.RLoad8)
	case api.RLoad16, api.RLoadU16:
		return f.loaded(t, 2, t.Op == api.RLoad16)
	case api.RLoad32, api.RLoadU32:
		return f.loaded(t, 4, t.Op == api.RLoad32)
	case api.RLoad64:
		return f.loaded(t, 8, true)
	}
	a := f.value(t.Kids[0])
	if len(t.Kids) == 2 {
		return f.both(t.Op, a, f.value(t.Kids[1]))
	}
	f.need(a.in == nil)
	bits := map[int]int{api.RExt8: 56, api.RZext8: 56, api.RExt16: 48, api.RZext16: 48, api.RExt32: 32, api.RZext32: 32}[t.Op]
	if t.Op == api.RExt8 || t.Op == api.RExt16 || t.Op == api.RExt32 {
		return value{n: a.n << bits >> bits}
	}
	return value{n: int64(uint64(a.n) << bits >> bits)}
}

func (f *frame) loaded(t api.Tree, size int, signed bool) value {
	p := f.value(t.Kids[0])
	f.element(p, size)
	if v, is := p.in.places[p.n]; is {
		return v
	}
	var n int64
	for i := size - 1; i >= 0; i-- {
		n = n<<8 + int64(p.in.bytes[int(p.n)+i])
	}
	if top := int64(1) << (8*size - 1); signed && size < 8 && n >= top {
		n -= 2 * top
	}
	return value{n: n}
}

// both tells what an op makes of two values.
func (f *frame) both(op int, a, b value) value {
	switch {
	case a.in == nil && b.in == nil:
		return value{n: reckon(op, a.n, b.n)}
	case op == api.RAdd && a.in == nil:
		return f.shifted(b, a.n, 1)
	case op == api.RAdd && b.in == nil:
		return f.shifted(a, b.n, 1)
	case op == api.RSub && b.in == nil:
		return f.shifted(a, b.n, -1)
	case op == api.REq || op == api.RNe:
		equal := a == b
		if a.in == nil || b.in == nil {
			f.need(a == value{} || b == value{})
		} else {
			f.need(!a.in.gone && !b.in.gone)
			f.need(a.in == b.in || a.n < int64(len(a.in.bytes)) && b.n < int64(len(b.in.bytes)))
		}
		return value{n: reckon(op, ofBool(equal), 1)}
	case op == api.RSub || op == api.RLt || op == api.RLtU || op == api.RLe || op == api.RLeU:
		f.need(a.in == b.in)
		f.need(!a.in.gone)
		return value{n: reckon(op, a.n, b.n)}
	}
	f.need(false)
	return value{}
}

// shifted tells a place moved by a number, or (sign -1) by less it.
func (f *frame) shifted(p value, by, sign int64) value {
	f.need(!p.in.gone)
	f.need(by >= -1000 && by <= 1000) // no object has more bytes
	p.n += by * sign
	f.need(p.n >= 0 && p.n <= int64(len(p.in.bytes)))
	return p
}

func ofBool(is bool) int64 {
	if is {
		return 1
	}
	return 0
}

// reckon tells what an op makes of two numbers, by rules of its own.
func reckon(op int, a, b int64) int64 {
	switch op {
	case api.RAdd:
		return a + b
	case api.RSub:
		return a - b
	case api.RMul:
		return a * b
	case api.RAnd:
		return a & b
	case api.ROr:
		return a | b
	case api.RXor:
		return a ^ b
	case api.RShl:
		return a << (b & 63)
	case api.RShr:
		return int64(uint64(a) >> (b & 63))
	case api.RSar:
		return a >> (b & 63)
	case api.REq:
		return ofBool(a == b)
	case api.RNe:
		return ofBool(a != b)
	case api.RLt:
		return ofBool(a < b)
	case api.RLtU:
		return ofBool(uint64(a) < uint64(b))
	case api.RLe:
		return ofBool(a <= b)
	case api.RLeU:
		return ofBool(uint64(a) <= uint64(b))
	}
	return divided(op, a, b)
}

func divided(op int, a, b int64) int64 {
	whole := op == api.RDiv || op == api.RDivU
	switch {
	case b == 0 && whole:
		return -1
	case b == 0:
		return a
	case op == api.RDiv:
		return a / b
	case op == api.RRem:
		return a - a/b*b
	case whole:
		return int64(uint64(a) / uint64(b))
	}
	return int64(uint64(a) - uint64(a)/uint64(b)*uint64(b))
}
