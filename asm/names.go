package asm

import (
	"backstay/api"
	"backstay/function"
	"backstay/opcode"
)

// labels are a function's: their names as they stand, and each one's place.
type labels struct {
	names  []string
	places map[string]int
}

// mention is a name in place of a number. What it means is asked when all lines were read, as it may stand ahead of what it names.
type mention struct {
	line, fn, place int
	name            string
	among           map[string]int // the numbers that names have
	wrong           api.Errno      // what is wrong, if the name is not among them
}

// define notes that a label stands at the place of its function's next instruction.
func (r *reader) define(name string) {
	l := &r.labels[len(r.labels)-1]
	if _, ok := l.places[name]; ok {
		// It is wrong as a name is that means nothing: so it is noted as one, to be told in the order of the lines.
		r.mentions = append(r.mentions, mention{line: r.line, name: name, wrong: api.ErrLabel})
		return
	}
	l.places[name] = len(r.current().Body)
	l.names = append(l.names, name)
}

// mentioning is the instruction that words say with a name, which is noted; its number is put in later.
func (r *reader) mentioning(words []string) (api.Instr, api.Errno) {
	if len(words) != 2 || function.Named(words[1]) != api.OK {
		return api.Instr{}, api.ErrLine
	}
	op, e := opcode.Of(words[0])
	if e != api.OK {
		return api.Instr{}, api.ErrLine
	}
	fn := len(r.image.Functions) - 1
	m := mention{line: r.line, fn: fn, place: len(r.current().Body), name: words[1]}
	switch kind, _ := opcode.Kinds(op); kind {
	case api.OperandPlace:
		m.among, m.wrong = r.labels[fn].places, api.ErrLabel
	case api.OperandFunction:
		m.among, m.wrong = r.numbers, api.ErrRef
	default:
		return api.Instr{}, api.ErrLine
	}
	r.mentions = append(r.mentions, m)
	return api.Instr{Op: op}, api.OK
}

// settle puts numbers where names were mentioned, up to the first one that means nothing.
func (r *reader) settle() (int, api.Errno) {
	for _, m := range r.mentions {
		n, ok := m.among[m.name]
		if !ok {
			return m.line, m.wrong
		}
		r.image.Functions[m.fn].Body[m.place].A = int64(n)
	}
	return 0, api.OK
}
