package asm

import (
	"strings"

	"backstay/api"
	"backstay/function"
	"backstay/image"
	"backstay/opcode"
	"backstay/shape"
	"backstay/value"
)

// What a line may say. Shapes come first, as they may stand where nothing was said yet.
const (
	aShape = iota
	aFunction
	someLocals
	aLabel
	anInstruction
	kinds
)

// The words by which lines begin that are no instruction's.
const (
	shapeWord    = "shape"
	functionWord = "func"
	localsWord   = "local"
)

// reader is what was read of a text so far.
type reader struct {
	image    api.Image
	line     int            // the number of the one that is being read
	last     int            // what the last line said that said anything
	numbers  map[string]int // of functions, by their names; of one name the first one's
	labels   []labels       // of each function
	mentions []mention
}

// read reads a text, if it says an image; else it tells what is wrong, and in which line.
func read(text string) (*reader, int, api.Errno) {
	if len(text) > api.MaxText {
		return nil, 0, api.ErrText
	}
	r := &reader{numbers: map[string]int{}}
	if line, e := r.readLines(text); e != api.OK {
		return nil, line, e
	}
	if line, e := r.settle(); e != api.OK {
		return nil, line, e
	}
	if image.Check(r.image) != api.OK {
		return nil, 0, api.ErrText
	}
	return r, 0, api.OK
}

// readLines reads all lines, up to the first one that says nothing that it may.
func (r *reader) readLines(text string) (int, api.Errno) {
	tries := [kinds]func(words []string) bool{
		aShape:        r.readShape,
		aFunction:     r.readFunction,
		someLocals:    r.readLocals,
		aLabel:        r.readLabel,
		anInstruction: r.readInstruction,
	}
reading:
	for number, line := range lines(text) {
		words := Words(line)
		if len(words) == 0 {
			continue
		}
		r.line = number
		for kind, try := range tries {
			if try(words) {
				r.last = kind
				continue reading
			}
		}
		return number, api.ErrLine
	}
	return 0, api.OK
}

// readShape reads the next shape, if that is what words say, and if it may stand here.
func (r *reader) readShape(words []string) bool {
	if r.last != aShape || len(words) != 2 || words[0] != shapeWord {
		return false
	}
	s, e := shape.Read(words[1])
	if e != api.OK {
		return false
	}
	r.image.Shapes = append(r.image.Shapes, s)
	return true
}

// readFunction reads the beginning of the next function, likewise.
func (r *reader) readFunction(words []string) bool {
	if len(words) != 3 || words[0] != functionWord || function.Named(words[1]) != api.OK {
		return false
	}
	sig, e := shape.ReadSignature(words[2])
	if e != api.OK {
		return false
	}
	name := words[1]
	if _, ok := r.numbers[name]; !ok {
		r.numbers[name] = len(r.image.Functions)
	}
	r.image.Functions = append(r.image.Functions, api.Function{Name: name, Sig: sig})
	r.labels = append(r.labels, labels{places: map[string]int{}})
	return true
}

// readLocals reads a function's locals, likewise.
func (r *reader) readLocals(words []string) bool {
	if r.last != aFunction || len(words) != 2 || words[0] != localsWord {
		return false
	}
	l, e := value.Types(words[1])
	if e != api.OK {
		return false
	}
	r.current().Locals = l
	return true
}

// readLabel reads a label, likewise.
func (r *reader) readLabel(words []string) bool {
	name, ok := strings.CutSuffix(words[0], string(colon))
	if r.last < aFunction || len(words) != 1 || !ok || function.Named(name) != api.OK {
		return false
	}
	r.define(name)
	return true
}

// readInstruction reads a function's next instruction, likewise.
func (r *reader) readInstruction(words []string) bool {
	if r.last < aFunction {
		return false
	}
	x, e := opcode.Read(joined(words))
	if e != api.OK {
		x, e = r.mentioning(words)
	}
	if e != api.OK {
		return false
	}
	f := r.current()
	f.Body = append(f.Body, x)
	return true
}

// current is the function whose lines are being read.
func (r *reader) current() *api.Function {
	return &r.image.Functions[len(r.image.Functions)-1]
}
