package value

import (
	"strconv"
	"strings"

	"backstay/api"
)

// nothing is nil's text, whatever its type.
const nothing = "nil"

// signs stand in front of the digits of values that are not nil.
var signs = [past]string{typeI: "", typeR: "#", typeF: "@", typeP: "&"}

// Show is a value's text.
func Show(v api.Value) string {
	switch {
	case Check(v) != api.OK:
		return ""
	case Nil(v):
		return nothing
	case v.Type == typeP:
		// An address hangs on how a stack grew, so it is never shown.
		return signs[typeP]
	}
	return signs[v.Type] + strconv.FormatInt(v.N-offset(v.Type), 10)
}

// Read is a text's value.
func Read(t int, s string) (api.Value, api.Errno) {
	if !Known(t) {
		return api.Value{}, api.ErrType
	}
	// A value has one text, so whatever was guessed of another one falls here; of a pointer's `&` none is guessed.
	v := guess(t, s)
	if Show(v) != s {
		return api.Value{}, api.ErrValue
	}
	return v, api.OK
}

// guess is the value of a text, if it is any of that type.
func guess(t int, s string) api.Value {
	if s == nothing {
		return api.Value{Type: t}
	}
	// Where there is no number, or one too great, what stands in for it has another text than s.
	n, _ := strconv.ParseInt(strings.TrimPrefix(s, signs[t]), 10, 64)
	return api.Value{Type: t, N: n + offset(t)}
}

// offset is by how much a value's number is above the one shown: a function's 0 is nil, so its index is one less.
func offset(t int) int64 {
	if t == typeF {
		return 1
	}
	return 0
}
