package opcode

import (
	"iter"

	"backstay/api"
)

// pair is two kinds of operands, or two types; 0 where there is none.
type pair [2]int

// The types that an instruction names itself, as its first operand and as its second one.
const (
	namedFirst  = -1
	namedSecond = -2
)

// row is what an instruction is: its name, its operands' kinds, the types of what it takes and leaves, the topmost last.
type row struct {
	name          string
	kinds         pair
	takes, leaves pair
	open          bool // what it takes and leaves is not fixed
	ends          bool // nothing goes on behind it
}

// table has the rows of all instructions, each at its op.
func table() [api.Ops]row {
	return [api.Ops]row{
		api.OpNop:     {name: "nop"},
		api.OpInt:     {name: "int", kinds: pair{api.OperandNumber}, leaves: pair{api.TypeI}},
		api.OpZero:    {name: "zero", kinds: pair{api.OperandType}, leaves: pair{namedFirst}},
		api.OpLoad:    {name: "load", kinds: pair{api.OperandSlot}, open: true},
		api.OpStore:   {name: "store", kinds: pair{api.OperandSlot}, open: true},
		api.OpAddr:    {name: "addr", kinds: pair{api.OperandSlot}, leaves: pair{api.TypeP}},
		api.OpLdp:     {name: "ldp", takes: pair{api.TypeP}, leaves: pair{api.TypeI}},
		api.OpStp:     {name: "stp", takes: pair{api.TypeP, api.TypeI}},
		api.OpNew:     {name: "new", kinds: pair{api.OperandShape}, leaves: pair{api.TypeR}},
		api.OpGet:     {name: "get", kinds: pair{api.OperandCell, api.OperandHeld}, takes: pair{api.TypeR}, leaves: pair{namedSecond}},
		api.OpSet:     {name: "set", kinds: pair{api.OperandCell, api.OperandHeld}, takes: pair{api.TypeR, namedSecond}},
		api.OpFunc:    {name: "func", kinds: pair{api.OperandFunction}, leaves: pair{api.TypeF}},
		api.OpDup:     {name: "dup", open: true},
		api.OpDrop:    {name: "drop", open: true},
		api.OpSwap:    {name: "swap", open: true},
		api.OpBin:     {name: "bin", kinds: pair{api.OperandBin}, takes: pair{api.TypeI, api.TypeI}, leaves: pair{api.TypeI}},
		api.OpUn:      {name: "un", kinds: pair{api.OperandUn}, takes: pair{api.TypeI}, leaves: pair{api.TypeI}},
		api.OpEq:      {name: "eq", kinds: pair{api.OperandType}, takes: pair{namedFirst, namedFirst}, leaves: pair{api.TypeI}},
		api.OpJmp:     {name: "jmp", kinds: pair{api.OperandPlace}, ends: true},
		api.OpJz:      {name: "jz", kinds: pair{api.OperandPlace}, takes: pair{api.TypeI}},
		api.OpCall:    {name: "call", kinds: pair{api.OperandFunction}, open: true},
		api.OpCalli:   {name: "calli", kinds: pair{api.OperandFunction}, open: true},
		api.OpDefer:   {name: "defer", kinds: pair{api.OperandFunction}, open: true},
		api.OpDeferi:  {name: "deferi", kinds: pair{api.OperandFunction}, open: true},
		api.OpRet:     {name: "ret", ends: true},
		api.OpPanic:   {name: "panic", takes: pair{api.TypeI}, ends: true},
		api.OpRecover: {name: "recover", leaves: pair{api.TypeI, api.TypeI}},
		api.OpGoexit:  {name: "goexit", ends: true},
		api.OpPrint:   {name: "print", takes: pair{api.TypeI}},
		api.OpIn:      {name: "in", leaves: pair{api.TypeI, api.TypeI}},
	}
}

// rows tells what each instruction is, by its op.
func rows() iter.Seq2[int, row] {
	return func(yield func(int, row) bool) {
		for op, r := range table() {
			if !yield(op, r) {
				return
			}
		}
	}
}

// rowOf is an op's row, if there is that op.
func rowOf(op int) (row, bool) {
	if op < 0 || op >= api.Ops {
		return row{}, false
	}
	return table()[op], true
}

// rowFor is the row of an instruction, if that may be.
func rowFor(x api.Instr) (row, bool) {
	r, ok := rowOf(x.Op)
	if !ok || !operandOf(r.kinds[0]).has(x.A) || !operandOf(r.kinds[1]).has(x.B) {
		return row{}, false
	}
	return r, true
}

// parts tells the operands that an instruction has, each with its number.
func (r row) parts(x api.Instr) iter.Seq2[operand, int64] {
	return func(yield func(operand, int64) bool) {
		for i, n := range [2]int64{x.A, x.B} {
			if r.kinds[i] == api.OperandNone || !yield(operandOf(r.kinds[i]), n) {
				return
			}
		}
	}
}

// typesOf are a pair's, with those that an instruction names put in.
func typesOf(p pair, x api.Instr) []int {
	l := make([]int, 0, len(p))
	for _, t := range p {
		switch t {
		case 0:
			return l
		case namedFirst:
			t = int(x.A)
		case namedSecond:
			t = int(x.B)
		}
		l = append(l, t)
	}
	return l
}
