package alu

import "backstay/api"

// The names of operations on two numbers, of those on one, and of codes.
var (
	binNames = [api.Bins]string{
		api.BinAdd: "add", api.BinSub: "sub", api.BinMul: "mul", api.BinDiv: "div", api.BinRem: "rem",
		api.BinAnd: "and", api.BinOr: "or", api.BinXor: "xor", api.BinAndNot: "andnot", api.BinShl: "shl", api.BinShr: "shr",
		api.BinLt: "lt", api.BinLe: "le", api.BinEq: "eq",
	}
	unNames = [api.Uns]string{
		api.UnNeg: "neg", api.UnNot: "not", api.UnZero: "zero",
		api.UnI8: "i8", api.UnI16: "i16", api.UnI32: "i32", api.UnU8: "u8", api.UnU16: "u16", api.UnU32: "u32",
	}
	codeNames = [api.Codes]string{
		api.CodeNone: "none", api.CodeNil: "nil", api.CodeDiv: "div", api.CodeIndex: "index", api.CodeShift: "shift", api.CodeType: "type",
	}
)

// BinName is a binary operation's name.
func BinName(op int) string {
	if op < 0 || op >= api.Bins {
		return ""
	}
	return binNames[op]
}

// UnName is a unary one's.
func UnName(op int) string {
	if op < 0 || op >= api.Uns {
		return ""
	}
	return unNames[op]
}

// CodeName is the name of what is wrong.
func CodeName(code int) string {
	if code < 0 || code >= api.Codes {
		return ""
	}
	return codeNames[code]
}

// BinOf is the binary operation of a name.
func BinOf(name string) (int, api.Errno) {
	return named(name, api.Bins, BinName)
}

// UnOf is the unary one.
func UnOf(name string) (int, api.Errno) {
	return named(name, api.Uns, UnName)
}

// named is the one of so many operations that has a name.
func named(name string, ops int, nameOf func(op int) string) (int, api.Errno) {
	for op := range ops {
		if nameOf(op) == name {
			return op, api.OK
		}
	}
	return 0, api.ErrOp
}
