package code

import (
	"backstay/api"
	"backstay/opcode"
)

// Insert is a body with one more.
func Insert(l []api.Instr, at int, x api.Instr) ([]api.Instr, api.Errno) {
	if !hasPlace(l, at) {
		return nil, api.ErrCode
	}
	m := shifted(l, at, 1)
	// What is ahead is cut off, so that x is not written over the one behind.
	return ifBody(append(append(m[:at:at], x), m[at:]...))
}

// Delete is a body without one.
func Delete(l []api.Instr, at int) ([]api.Instr, api.Errno) {
	if !hasPlace(l, at) {
		return nil, api.ErrCode
	}
	m := shifted(l, at, -1)
	return ifBody(append(m[:at], m[at+1:]...))
}

// shifted are a body's instructions, with those that go to a place behind one going so much farther.
func shifted(l []api.Instr, at, by int) []api.Instr {
	m := make([]api.Instr, len(l))
	copy(m, l)
	for i, x := range m {
		if to, goes := opcode.Goes(x); goes && to > at {
			m[i].A += int64(by)
		}
	}
	return m
}
