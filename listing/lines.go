package listing

import "iter"

// What a line may say.
const (
	aShape = iota
	aFunction
	someLocals
	aLabel
	anInstruction
)

// line is one of a listing: what it says, and of which shape, function or place.
type line struct {
	what  int
	shape int
	at    spot
}

// lines tells a listing's, numbered from 1 on. Their texts are not made here, as most who go through them ask for none.
func (s sheet) lines() iter.Seq2[int, line] {
	return func(yield func(int, line) bool) {
		number := 0
		tell := func(l line) bool {
			number++
			return yield(number, l)
		}
		for i := range s.image.Shapes {
			if !tell(line{what: aShape, shape: i}) {
				return
			}
		}
		for fn := range s.image.Functions {
			if !s.tellFunction(fn, tell) {
				return
			}
		}
	}
}

// tellFunction tells a function's lines, as long as more are asked for, and says whether they are behind it, too.
func (s sheet) tellFunction(fn int, tell func(line) bool) bool {
	f := s.image.Functions[fn]
	if !tell(line{what: aFunction, at: spot{fn: fn}}) {
		return false
	}
	if len(f.Locals) != 0 && !tell(line{what: someLocals, at: spot{fn: fn}}) {
		return false
	}
	for place := range f.Body {
		at := spot{fn, place}
		if _, ok := s.labels[at]; ok && !tell(line{what: aLabel, at: at}) {
			return false
		}
		if !tell(line{what: anInstruction, at: at}) {
			return false
		}
	}
	return true
}
