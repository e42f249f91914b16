package function

import (
	"backstay/api"
	"backstay/code"
	"backstay/shape"
	"backstay/vary"
)

// Encode is a function's bytes.
func Encode(f api.Function) ([]byte, api.Errno) {
	var b []byte
	if Check(f) != api.OK || !every(
		writes(&b, encodeName, f.Name),
		writes(&b, shape.EncodeSignature, f.Sig),
		writes(&b, shape.EncodeSignature, taking(f.Locals)),
		writes(&b, code.Encode, f.Body),
	) {
		return nil, api.ErrFunction
	}
	return b, api.OK
}

// Decode reads a function.
func Decode(r *vary.Reel) (api.Function, api.Errno) {
	var f api.Function
	if !every(
		reads(r, decodeName, &f.Name),
		reads(r, shape.DecodeSignature, &f.Sig),
		reads(r, decodeLocals, &f.Locals),
		reads(r, code.Decode, &f.Body),
	) || Check(f) != api.OK {
		return api.Function{}, api.ErrFunction
	}
	return f, api.OK
}

// writes puts a part's bytes behind others, and asks whether it has any.
func writes[T any](b *[]byte, encode func(T) ([]byte, api.Errno), part T) func() bool {
	return func() bool {
		one, e := encode(part)
		*b = append(*b, one...)
		return e == api.OK
	}
}

// reads keeps the part that a Reel's next bytes are, and asks whether there is one.
func reads[T any](r *vary.Reel, decode func(*vary.Reel) (T, api.Errno), part *T) func() bool {
	return func() bool {
		one, e := decode(r)
		*part = one
		return e == api.OK
	}
}

func encodeName(name string) ([]byte, api.Errno) {
	var t vary.Tape
	return t.Bytes([]byte(name)).All(), api.OK
}

func decodeName(r *vary.Reel) (string, api.Errno) {
	b, e := r.Bytes(api.MaxName)
	return string(b), e
}

func decodeLocals(r *vary.Reel) ([]int, api.Errno) {
	g, e := shape.DecodeSignature(r)
	if e != api.OK || len(g.Results) > 0 {
		return nil, api.ErrFunction
	}
	return g.Args, api.OK
}
