package opcode

import (
	"strings"

	"backstay/api"
)

// blank parts an instruction's name and its operands.
const blank = " "

// Show is an instruction's text.
func Show(x api.Instr) string {
	r, ok := rowFor(x)
	if !ok {
		return ""
	}
	text := r.name
	for o, n := range r.parts(x) {
		text += blank + o.show(n)
	}
	return text
}

// Read is a text's instruction.
func Read(s string) (api.Instr, api.Errno) {
	name, rest, _ := strings.Cut(s, blank)
	op, e := Of(name)
	if e != api.OK {
		return api.Instr{}, api.ErrOpcode
	}
	// An instruction has one text, so whatever was guessed of another one falls here.
	x := guess(op, rest)
	if Show(x) != s {
		return api.Instr{}, api.ErrOpcode
	}
	return x, api.OK
}

// guess is the instruction of an op whose operands have a text, if it is any's.
func guess(op int, text string) api.Instr {
	x := api.Instr{Op: op}
	first, second, _ := strings.Cut(text, blank)
	a, b := Kinds(op)
	if a != api.OperandNone {
		x.A = operandOf(a).guess(first)
	}
	if b != api.OperandNone {
		x.B = operandOf(b).guess(second)
	}
	return x
}
