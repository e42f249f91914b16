package listing

import (
	"strconv"
	"strings"

	"backstay/api"
	"backstay/image"
	"backstay/opcode"
	"backstay/shape"
	"backstay/value"
)

// What lines are put together of.
const (
	shapeWord    = "shape"
	functionWord = "func"
	localsWord   = "local"
	labelLetter  = "L"
	colon        = ":" // ends a label
	blank        = " " // parts words
	note         = " ; "
	feed         = "\n" // ends a line
)

// spot is a place of a function.
type spot struct{ fn, place int }

// sheet is one of an image's listings.
type sheet struct {
	image   api.Image
	labels  map[spot]int                             // the numbers of the labels of those places that have names
	operand func(fn int, x api.Instr) (string, bool) // the name that a function's instruction has instead of a number, if it has one
	behind  func(place int) string                   // what stands behind an instruction
}

// plain is the plain one. An image that may not be is listed as one that has nothing: no lines are told of it.
func plain(p api.Image) sheet {
	if image.Check(p) != api.OK {
		p = api.Image{}
	}
	return sheet{
		image:   p,
		operand: func(int, api.Instr) (string, bool) { return "", false },
		behind:  func(int) string { return "" },
	}
}

// numbered is the plain one, with places behind its instructions.
func numbered(p api.Image) sheet {
	s := plain(p)
	s.behind = func(place int) string { return note + strconv.Itoa(place) }
	return s
}

// named is the plain one, with names of places and functions.
func named(p api.Image) sheet {
	s := plain(p)
	functions, labels := s.image.Functions, labelsOf(s.image)
	s.labels = labels
	s.operand = func(fn int, x api.Instr) (string, bool) {
		switch kind, _ := opcode.Kinds(x.Op); kind {
		case api.OperandPlace:
			return label(labels[spot{fn, int(x.A)}]), true
		case api.OperandFunction:
			if x.A < int64(len(functions)) {
				return functions[x.A].Name, true
			}
		}
		return "", false
	}
	return s
}

// labelsOf are the numbers of all labels of an image's functions, each function's from 0 on.
func labelsOf(p api.Image) map[spot]int {
	labels := map[spot]int{}
	for fn, f := range p.Functions {
		for number, place := range targets(f.Body) {
			labels[spot{fn, place}] = number
		}
	}
	return labels
}

// label is the name of the label of a number.
func label(number int) string {
	return labelLetter + strconv.Itoa(number)
}

// text is the whole of it.
func (s sheet) text() string {
	var b strings.Builder
	for _, l := range s.lines() {
		b.WriteString(s.says(l))
		b.WriteString(feed)
	}
	return b.String()
}

// says is what a line says.
func (s sheet) says(l line) string {
	if l.what == aShape {
		return shapeWord + blank + shape.Show(s.image.Shapes[l.shape])
	}
	f := s.image.Functions[l.at.fn]
	switch l.what {
	case aFunction:
		return functionWord + blank + f.Name + blank + shape.ShowSignature(f.Sig)
	case someLocals:
		return localsWord + blank + value.Text(f.Locals)
	case aLabel:
		return label(s.labels[l.at]) + colon
	}
	return s.instruction(l.at.fn, f.Body[l.at.place]) + s.behind(l.at.place)
}

// instruction is the text of a function's instruction.
func (s sheet) instruction(fn int, x api.Instr) string {
	if name, ok := s.operand(fn, x); ok {
		return opcode.Name(x.Op) + blank + name
	}
	return opcode.Show(x)
}
