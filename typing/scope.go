package typing

import (
	"slices"

	"backstay/api"
	"backstay/function"
	"backstay/opcode"
	"backstay/value"
)

// scope is what an instruction of a function may refer to, or what is wrong with that.
type scope struct {
	sigs      []api.Signature
	shapes    int
	slots     []int
	depending map[int]rule
	wrong     api.Errno
}

// scopeOf is that of a function in a context.
func scopeOf(c api.Context, f api.Function) scope {
	switch {
	case Check(c) != api.OK:
		return scope{wrong: api.ErrSignature}
	case function.Check(f) != api.OK:
		return scope{wrong: api.ErrFunction}
	}
	return scope{sigs: c.Sigs, shapes: c.Shapes, slots: function.Slots(f), depending: depending()}
}

// allows says what is wrong with the scope, or with an instruction by itself.
func (s scope) allows(x api.Instr) api.Errno {
	if s.wrong != api.OK {
		return s.wrong
	}
	return opcode.Check(x)
}

// has says whether there is what an instruction refers to.
func (s scope) has(x api.Instr) bool {
	switch kind, _ := opcode.Kinds(x.Op); kind {
	case api.OperandSlot:
		// Pointers point to numbers alone.
		return x.A < int64(len(s.slots)) && (x.Op != api.OpAddr || s.slots[x.A] == api.TypeI)
	case api.OperandShape:
		return x.A < int64(s.shapes)
	case api.OperandFunction:
		return x.A < int64(len(s.sigs))
	}
	return true
}

// effect is what an instruction takes and leaves, if that does not depend on what is there.
func (s scope) effect(x api.Instr) (takes, leaves []int) {
	switch x.Op {
	case api.OpLoad:
		return nil, []int{s.slots[x.A]}
	case api.OpStore:
		return []int{s.slots[x.A]}, nil
	case api.OpCalli:
		takes = []int{api.TypeF}
		fallthrough
	case api.OpCall:
		return append(takes, s.sigs[x.A].Args...), slices.Clone(s.sigs[x.A].Results)
	case api.OpDeferi:
		takes = []int{api.TypeF}
		fallthrough
	case api.OpDefer:
		return append(takes, s.sigs[x.A].Args...), nil
	}
	takes, leaves, _ = opcode.Effect(x)
	return takes, leaves
}

// rule is an instruction's.
func (s scope) rule(x api.Instr) rule {
	if r, ok := s.depending[x.Op]; ok {
		return r
	}
	return typed(s.effect(x))
}

// step is the state behind an instruction. It may share memory with the one ahead, but none of that is written into.
func (s scope) step(state []int, x api.Instr) ([]int, api.Errno) {
	if e := s.allows(x); e != api.OK {
		return nil, e
	}
	switch {
	case !isState(state):
		return nil, api.ErrType
	case !s.has(x):
		return nil, api.ErrWhich
	}
	behind, e := s.rule(x).apply(state)
	if e != api.OK || empties(x) {
		return nil, e
	}
	return behind, api.OK
}

// isState says whether a list is a state.
func isState(l []int) bool {
	if len(l) > api.MaxHeight {
		return false
	}
	for _, t := range l {
		if !value.Known(t) {
			return false
		}
	}
	return true
}

// empties says whether no operands are behind an instruction: its frame goes.
func empties(x api.Instr) bool {
	return x.Op == api.OpRet || x.Op == api.OpPanic || x.Op == api.OpGoexit
}
