package shape

import (
	"iter"

	"backstay/api"
	"backstay/vary"
)

const (
	width   = 2                                      // a type's bits
	perByte = 8 / width                              // types
	longest = (api.MaxSlots + perByte - 1) / perByte // bytes that types are laid into
)

// Encode is a shape's bytes.
func Encode(s api.Shape) ([]byte, api.Errno) {
	if e := Check(s); e != api.OK {
		return nil, e
	}
	return pack(s), api.OK
}

// Decode reads a shape.
func Decode(r *vary.Reel) (api.Shape, api.Errno) {
	s, ok := unpack[api.Shape](r, api.MaxCells)
	if !ok {
		return nil, api.ErrShape
	}
	return ifShape(s)
}

// EncodeSignature is a signature's bytes.
func EncodeSignature(g api.Signature) ([]byte, api.Errno) {
	if e := CheckSignature(g); e != api.OK {
		return nil, e
	}
	return append(pack(g.Args), pack(g.Results)...), api.OK
}

// DecodeSignature reads a signature.
func DecodeSignature(r *vary.Reel) (api.Signature, api.Errno) {
	args, ok := unpack[[]int](r, api.MaxSlots)
	if !ok {
		return api.Signature{}, api.ErrSignature
	}
	results, ok := unpack[[]int](r, api.MaxSlots-len(args))
	if !ok {
		return api.Signature{}, api.ErrSignature
	}
	return ifSignature(api.Signature{Args: args, Results: results})
}

// pack are the bytes of types that are known, at most MaxSlots.
func pack[L ~[]int](l L) []byte {
	var laid [longest]byte
	for i, t := range l {
		laid[i/perByte] |= byte(t-api.TypeI) << (i % perByte * width)
	}
	var t vary.Tape
	return append(t.Number(uint64(len(l))).All(), laid[:size(len(l))]...)
}

// unpack reads types from their bytes, if there are such, of at most so many.
func unpack[L ~[]int](r *vary.Reel, atMost int) (L, bool) {
	n, e := r.Number(uint64(atMost))
	if e != api.OK {
		return nil, false
	}
	b, e := r.Raw(size(int(n)))
	if e != api.OK {
		return nil, false
	}
	return types[L](b, int(n))
}

// types are the first ones that were laid into bytes, if nothing is behind them.
func types[L ~[]int](b []byte, n int) (L, bool) {
	l, alone := make(L, 0, n), true
laid:
	for piece := range pieces(b) {
		switch {
		case len(l) < n:
			l = append(l, piece+api.TypeI)
		case piece != 0:
			alone = false
			break laid
		}
	}
	if !alone {
		return nil, false
	}
	return l, true
}

// pieces tells the bits of bytes, as many at once as a type has, from the lowest of each byte on.
func pieces(b []byte) iter.Seq[int] {
	return func(yield func(int) bool) {
		for _, x := range b {
			for range perByte {
				if !yield(int(x & (1<<width - 1))) {
					return
				}
				x >>= width
			}
		}
	}
}

// size is how many bytes so many types are laid into.
func size(n int) int {
	return (n + perByte - 1) / perByte
}
