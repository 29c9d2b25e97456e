package checked

import "gantlet/api"

// reckoning is num's op for numbers with a sign, and that for numbers without.
type reckoning struct {
	signed, unsigned int
}

// ops are the reckonings of two integers.
var ops = [...]reckoning{
	api.EMul: {api.RMul, api.RMul},
	api.EDiv: {api.RDiv, api.RDivU},
	api.EMod: {api.RRem, api.RRemU},
	api.EAdd: {api.RAdd, api.RAdd},
	api.ESub: {api.RSub, api.RSub},
	api.EShl: {api.RShl, api.RShl},
	api.EShr: {api.RSar, api.RShr},
	api.ELt:  {api.RLt, api.RLtU},
	api.ELe:  {api.RLe, api.RLeU},
	api.EGt:  {api.RLt, api.RLtU},
	api.EGe:  {api.RLe, api.RLeU},
	api.EEq:  {api.REq, api.REq},
	api.ENe:  {api.RNe, api.RNe},
	api.EAnd: {api.RAnd, api.RAnd},
	api.EXor: {api.RXor, api.RXor},
	api.EOr:  {api.ROr, api.ROr},
}

// Op tells num's op that reckons an op of two numbers of a kind.
func Op(op, kind int) int {
	if Signed(kind) {
		return ops[op].signed
	}
	return ops[op].unsigned
}

// IsTurned tells whether the operands of an op change places ahead of that, as num has neither >
// nor >=.
func IsTurned(op int) bool {
	return op == api.EGt || op == api.EGe
}
