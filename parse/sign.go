package parse

import "gantlet/api"

// Levels of expressions, from the loosest to the tightest: what is of a level may stand
// where one of a lower level is asked for.
const (
	levelAssign = iota
	levelCond
	levelLor
	levelLand
	levelOr
	levelXor
	levelAnd
	levelEqual
	levelLess
	levelShift
	levelAdd
	levelMul
	levelUnary
	levelPostfix
	levelPrimary
)

// place is a sign and the level at which it stands: one sign is one op ahead of what it
// is about, and another one between two.
type place struct {
	level int
	sign  string
}

// meaning is what comes of a sign: an Expr's Op, and N, if it is EAssign.
type meaning struct {
	op int
	n  int64
}

// signed is an op with a sign of its own.
type signed struct {
	place
	meaning
}

// allSigned tells all of them, each place once, and each meaning once.
func allSigned() []signed {
	return []signed{
		{place{levelAssign, "="}, meaning{api.EAssign, 0}},
		{place{levelAssign, "*="}, meaning{api.EAssign, api.EMul}},
		{place{levelAssign, "/="}, meaning{api.EAssign, api.EDiv}},
		{place{levelAssign, "%="}, meaning{api.EAssign, api.EMod}},
		{place{levelAssign, "+="}, meaning{api.EAssign, api.EAdd}},
		{place{levelAssign, "-="}, meaning{api.EAssign, api.ESub}},
		{place{levelAssign, "<<="}, meaning{api.EAssign, api.EShl}},
		{place{levelAssign, ">>="}, meaning{api.EAssign, api.EShr}},
		{place{levelAssign, "&="}, meaning{api.EAssign, api.EAnd}},
		{place{levelAssign, "^="}, meaning{api.EAssign, api.EXor}},
		{place{levelAssign, "|="}, meaning{api.EAssign, api.EOr}},
		{place{levelCond, "?"}, meaning{op: api.ECond}},
		{place{levelLor, "||"}, meaning{op: api.ELor}},
		{place{levelLand, "&&"}, meaning{op: api.ELand}},
		{place{levelOr, "|"}, meaning{op: api.EOr}},
		{place{levelXor, "^"}, meaning{op: api.EXor}},
		{place{levelAnd, "&"}, meaning{op: api.EAnd}},
		{place{levelEqual, "=="}, meaning{op: api.EEq}},
		{place{levelEqual, "!="}, meaning{op: api.ENe}},
		{place{levelLess, "<"}, meaning{op: api.ELt}},
		{place{levelLess, ">"}, meaning{op: api.EGt}},
		{place{levelLess, "<="}, meaning{op: api.ELe}},
		{place{levelLess, ">="}, meaning{op: api.EGe}},
		{place{levelShift, "<<"}, meaning{op: api.EShl}},
		{place{levelShift, ">>"}, meaning{op: api.EShr}},
		{place{levelAdd, "+"}, meaning{op: api.EAdd}},
		{place{levelAdd, "-"}, meaning{op: api.ESub}},
		{place{levelMul, "*"}, meaning{op: api.EMul}},
		{place{levelMul, "/"}, meaning{op: api.EDiv}},
		{place{levelMul, "%"}, meaning{op: api.EMod}},
		{place{levelUnary, "-"}, meaning{op: api.EMinus}},
		{place{levelUnary, "~"}, meaning{op: api.EComp}},
		{place{levelUnary, "!"}, meaning{op: api.ENot}},
		{place{levelUnary, "*"}, meaning{op: api.EDeref}},
		{place{levelUnary, "&"}, meaning{op: api.EAddr}},
		{place{levelUnary, "++"}, meaning{op: api.EPreInc}},
		{place{levelUnary, "--"}, meaning{op: api.EPreDec}},
		{place{levelPostfix, "["}, meaning{op: api.EIndex}},
		{place{levelPostfix, "++"}, meaning{op: api.EPostInc}},
		{place{levelPostfix, "--"}, meaning{op: api.EPostDec}},
	}
}

// meanings tells of each place what it means.
func meanings() map[place]meaning {
	m := map[place]meaning{}
	for _, s := range allSigned() {
		m[s.place] = s.meaning
	}
	return m
}

// places tells of each meaning its place.
func places() map[meaning]place {
	m := map[meaning]place{}
	for _, s := range allSigned() {
		m[s.meaning] = s.place
	}
	return m
}
