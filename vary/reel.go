package vary

import (
	"slices"

	"backstay/api"
)

// Reel has bytes, and a place up to which they were read.
type Reel struct {
	held []byte
	at   int
}

// want is what is to be read: how many bytes, and who keeps them.
type want struct {
	size int
	keep func(b []byte)
}

// sum keeps bytes as one number, the highest first.
type sum struct{ n uint64 }

func (s *sum) add(b []byte) {
	for _, digit := range b {
		s.n = s.n<<8 | uint64(digit)
	}
}

// taken keeps bytes as they are.
type taken struct{ bytes []byte }

func (t *taken) set(b []byte) { t.bytes = slices.Clone(b) }

// On reads bytes.
func On(b []byte) *Reel {
	return &Reel{held: slices.Clone(b)}
}

// Number reads a number.
func (r *Reel) Number(most uint64) (uint64, api.Errno) {
	if r == nil {
		return 0, api.ErrNil
	}
	n, width, e := r.bounded(most)
	if e != api.OK {
		return 0, e
	}
	r.at += width
	return n, api.OK
}

// Signed reads a signed number.
func (r *Reel) Signed(least, most int64) (int64, api.Errno) {
	if r == nil {
		return 0, api.ErrNil
	}
	zigzag, width, e := r.next()
	if e != api.OK {
		return 0, e
	}
	n := Zag(zigzag)
	if n < least || n > most {
		return 0, api.ErrRange
	}
	r.at += width
	return n, api.OK
}

// Bytes reads bytes with their length.
func (r *Reel) Bytes(most int) ([]byte, api.Errno) {
	if r == nil {
		return nil, api.ErrNil
	}
	size, width, e := r.bounded(uint64(max(most, 0)))
	if e != api.OK {
		return nil, e
	}
	return r.take(r.at+width, int(size))
}

// Raw reads bytes.
func (r *Reel) Raw(n int) ([]byte, api.Errno) {
	switch {
	case r == nil:
		return nil, api.ErrNil
	case n < 0:
		return nil, api.ErrArg
	}
	return r.take(r.at, n)
}

// At is the place.
func (r *Reel) At() int {
	if r == nil {
		return 0
	}
	return r.at
}

// End says whether any bytes are left.
func (r *Reel) End() api.Errno {
	switch {
	case r == nil:
		return api.ErrNil
	case r.at < len(r.held):
		return api.ErrTail
	}
	return api.OK
}

// look hands what is wanted, from a place on, to its keeper; the Reel's own place stays.
func (r *Reel) look(from int, w want) api.Errno {
	if w.size > len(r.held)-from {
		return api.ErrShort
	}
	w.keep(r.held[from : from+w.size])
	return api.OK
}

// take reads bytes from a place on.
func (r *Reel) take(from, size int) ([]byte, api.Errno) {
	var got taken
	if e := r.look(from, want{size, got.set}); e != api.OK {
		return nil, e
	}
	r.at = from + size
	return got.bytes, api.OK
}

// next is the number that comes next, and its width; the place stays.
func (r *Reel) next() (n uint64, width int, e api.Errno) {
	var first, all sum
	if e := r.look(r.at, want{1, first.add}); e != api.OK {
		return 0, 0, e
	}
	width = told(byte(first.n))
	if e := r.look(r.at, want{width, all.add}); e != api.OK {
		return 0, 0, e
	}
	n = all.n &^ (uint64(mark(width)) << (8 * (width - 1)))
	if Width(n) < width {
		return 0, 0, api.ErrForm
	}
	return n, width, api.OK
}

// bounded is the number that comes next, if it is at most so great, and its width; the place stays.
func (r *Reel) bounded(most uint64) (n uint64, width int, e api.Errno) {
	n, width, e = r.next()
	switch {
	case e != api.OK:
		return 0, 0, e
	case n > most:
		return 0, 0, api.ErrRange
	}
	return n, width, api.OK
}
