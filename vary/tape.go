package vary

import "slices"

// Tape has bytes that were written: the first ones of a strip.
type Tape struct {
	on   *strip
	size int
}

// strip has bytes that a Tape and its copies may share, so none is ever written over.
type strip struct{ held []byte }

// Number writes a number.
func (t *Tape) Number(n uint64) *Tape {
	return t.write(encode(n))
}

// Signed writes a signed number.
func (t *Tape) Signed(n int64) *Tape {
	return t.Number(Zig(n))
}

// Bytes writes bytes with their length.
func (t *Tape) Bytes(b []byte) *Tape {
	return t.Number(uint64(len(b))).write(b)
}

// All is what was written.
func (t *Tape) All() []byte {
	if t == nil || t.on == nil {
		return nil
	}
	return slices.Clone(t.on.held[:t.size])
}

// write puts bytes behind those that were written.
func (t *Tape) write(b []byte) *Tape {
	if t == nil {
		return nil
	}
	// Where a copy of this Tape has written on, this one needs a strip of its own.
	if t.on == nil || t.size != len(t.on.held) {
		t.on = &strip{t.All()}
	}
	t.on.held = append(t.on.held, b...)
	t.size = len(t.on.held)
	return t
}
