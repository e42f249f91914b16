package opcode

import (
	"backstay/api"
	"backstay/vary"
)

// Encode is an instruction's bytes.
func Encode(x api.Instr) ([]byte, api.Errno) {
	r, ok := rowFor(x)
	if !ok {
		return nil, api.ErrOpcode
	}
	var t vary.Tape
	t.Number(uint64(x.Op))
	for o, n := range r.parts(x) {
		o.write(&t, n)
	}
	return t.All(), api.OK
}

// Decode reads an instruction.
func Decode(r *vary.Reel) (api.Instr, api.Errno) {
	op, e := r.Number(api.Ops - 1)
	if e != api.OK {
		return api.Instr{}, e
	}
	first, second := Kinds(int(op))
	a, e := operandOf(first).read(r)
	if e != api.OK {
		return api.Instr{}, e
	}
	b, e := operandOf(second).read(r)
	if e != api.OK {
		return api.Instr{}, e
	}
	return api.Instr{Op: int(op), A: a, B: b}, api.OK
}

// write puts a number of the kind on a Tape.
func (o operand) write(t *vary.Tape, n int64) {
	if o.kind == api.OperandNumber {
		t.Signed(n)
		return
	}
	t.Number(uint64(n))
}

// read takes a number of the kind from a Reel.
func (o operand) read(r *vary.Reel) (int64, api.Errno) {
	switch o.kind {
	case api.OperandNone:
		return 0, api.OK
	case api.OperandNumber:
		return r.Signed(o.least, o.most)
	}
	n, e := r.Number(uint64(o.most))
	switch {
	case e != api.OK:
		return 0, e
	case !o.has(int64(n)):
		return 0, api.ErrOpcode
	}
	return int64(n), api.OK
}
