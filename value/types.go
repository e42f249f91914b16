package value

import (
	"strings"

	"backstay/api"
)

// The types, from the first one on; past is the number behind the last one.
const (
	typeI = api.TypeI + iota
	typeR
	typeF
	typeP
	past
)

// letters are the types'.
var letters = [past]rune{typeI: 'I', typeR: 'R', typeF: 'F', typeP: 'P'}

// Known says whether there is such a type.
func Known(t int) bool {
	return t >= typeI && t < past
}

// Letter is a type's.
func Letter(t int) string {
	if !Known(t) {
		return ""
	}
	return string(letters[t])
}

// Text is a list of types'.
func Text(l []int) string {
	if len(l) > api.MaxTypes {
		return ""
	}
	var b strings.Builder
	for _, t := range l {
		if !Known(t) {
			return ""
		}
		b.WriteRune(letters[t])
	}
	return b.String()
}

// Types are a text's.
func Types(s string) ([]int, api.Errno) {
	if len(s) > api.MaxTypes {
		return nil, api.ErrType
	}
	l := make([]int, 0, len(s))
	for _, letter := range s {
		t, ok := lettered(letter)
		if !ok {
			return nil, api.ErrType
		}
		l = append(l, t)
	}
	return l, api.OK
}

// lettered is the type of a letter.
func lettered(letter rune) (int, bool) {
	for t := typeI; t < past; t++ {
		if letters[t] == letter {
			return t, true
		}
	}
	return 0, false
}
