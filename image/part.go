package image

import (
	"slices"

	"backstay/api"
	"backstay/function"
	"backstay/shape"
	"backstay/vary"
)

// part is what parts of one kind have: how many there may be, and who checks, writes, reads and copies one.
type part[T any] struct {
	least, most int
	check       func(T) api.Errno
	encode      func(T) ([]byte, api.Errno)
	decode      func(*vary.Reel) (T, api.Errno)
	copied      func(T) T
}

// shapes is what an image's shapes have.
func shapes() part[api.Shape] {
	return part[api.Shape]{0, api.MaxShapes, shape.Check, shape.Encode, shape.Decode, slices.Clone[api.Shape]}
}

// functions is what an image's functions have.
func functions() part[api.Function] {
	return part[api.Function]{1, api.MaxFunctions, function.Check, function.Encode, function.Decode, function.Copy}
}

// may says whether there may be so many parts, and each of them.
func may[T any](l []T, as part[T]) bool {
	return len(l) >= as.least && len(l) <= as.most && !slices.ContainsFunc(l, func(x T) bool {
		return as.check(x) != api.OK
	})
}

// write are the bytes of how many parts there are, and of parts that may be.
func write[T any](l []T, as part[T]) []byte {
	var t vary.Tape
	b := t.Number(uint64(len(l))).All()
	for _, x := range l {
		one, _ := as.encode(x)
		b = append(b, one...)
	}
	return b
}

// read reads how many parts there are, and the parts, if there are such.
func read[T any](r *vary.Reel, as part[T]) ([]T, bool) {
	n, e := r.Number(uint64(as.most))
	if e != api.OK {
		return nil, false
	}
	l := make([]T, n)
	for i := range l {
		if l[i], e = as.decode(r); e != api.OK {
			return nil, false
		}
	}
	return l, true
}

// copies are parts like these.
func copies[T any](l []T, as part[T]) []T {
	var all []T
	for _, x := range l {
		all = append(all, as.copied(x))
	}
	return all
}
