package image

import (
	"bytes"
	"slices"

	"backstay/api"
	"backstay/vary"
)

const (
	prime = 65521 // the greatest below 2^16
	half  = 16    // the bits of each of a sum's two numbers
	size  = 4     // a sum's bytes
)

// Encode is an image's bytes.
func Encode(p api.Image) ([]byte, api.Errno) {
	if Check(p) != api.OK {
		return nil, api.ErrImage
	}
	b := slices.Concat([]byte(api.Magic), write(p.Shapes, shapes()), write(p.Functions, functions()))
	return append(b, seal(b)...), api.OK
}

// Decode is bytes' image.
func Decode(b []byte) (api.Image, api.Errno) {
	magic := []byte(api.Magic)
	rest, ok := bytes.CutPrefix(b, magic)
	if !ok {
		return api.Image{}, api.ErrMagic
	}
	end := len(rest) - size
	if end < 0 || !bytes.Equal(rest[end:], seal(magic, rest[:end])) {
		return api.Image{}, api.ErrSum
	}
	p, ok := inner(rest[:end])
	if !ok || Check(p) != api.OK {
		return api.Image{}, api.ErrImage
	}
	return p, api.OK
}

// Sum is the sum of parts.
func Sum(parts ...[]byte) uint32 {
	a, b := uint32(1), uint32(0)
	for _, one := range parts {
		for _, x := range one {
			a = (a + uint32(x)) % prime
			b = (b + a) % prime
		}
	}
	return b<<half | a
}

// seal are the bytes of parts' sum, the highest first.
func seal(parts ...[]byte) []byte {
	n := Sum(parts...)
	return []byte{byte(n >> 24), byte(n >> 16), byte(n >> 8), byte(n)}
}

// inner is the image whose bytes stand between Magic and the sum, if each of them is its own.
func inner(b []byte) (api.Image, bool) {
	r := vary.On(b)
	s, ok := read(r, shapes())
	if !ok {
		return api.Image{}, false
	}
	f, ok := read(r, functions())
	return api.Image{Shapes: s, Functions: f}, ok && r.End() == api.OK
}
