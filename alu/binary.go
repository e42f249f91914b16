package alu

import "backstay/api"

// binary makes a number of two, or tells the code of what is wrong.
type binary func(a, b int64) (n int64, code int)

// binaries are the operations on two numbers.
func binaries() map[int]binary {
	return map[int]binary{
		api.BinAdd:    func(a, b int64) (int64, int) { return a + b, api.CodeNone },
		api.BinSub:    func(a, b int64) (int64, int) { return a - b, api.CodeNone },
		api.BinMul:    func(a, b int64) (int64, int) { return a * b, api.CodeNone },
		api.BinDiv:    guarded(func(a, b int64) int64 { return a / b }),
		api.BinRem:    guarded(func(a, b int64) int64 { return a % b }),
		api.BinAnd:    func(a, b int64) (int64, int) { return a & b, api.CodeNone },
		api.BinOr:     func(a, b int64) (int64, int) { return a | b, api.CodeNone },
		api.BinXor:    func(a, b int64) (int64, int) { return a ^ b, api.CodeNone },
		api.BinAndNot: func(a, b int64) (int64, int) { return a &^ b, api.CodeNone },
		api.BinShl:    shifting(func(a int64, by uint64) int64 { return a << by }),
		api.BinShr:    shifting(func(a int64, by uint64) int64 { return a >> by }),
		api.BinLt:     func(a, b int64) (int64, int) { return truth(a < b), api.CodeNone },
		api.BinLe:     func(a, b int64) (int64, int) { return truth(a <= b), api.CodeNone },
		api.BinEq:     func(a, b int64) (int64, int) { return truth(a == b), api.CodeNone },
	}
}

// guarded is a division that tells of a 0 it fails at.
func guarded(divide func(a, b int64) int64) binary {
	return func(a, b int64) (n int64, code int) {
		defer func() {
			if recover() != nil {
				n, code = 0, api.CodeDiv
			}
		}()
		return divide(a, b), api.CodeNone
	}
}

// shifting is a shift that tells of one by less than 0.
func shifting(shift func(a int64, by uint64) int64) binary {
	return func(a, b int64) (int64, int) {
		if b < 0 {
			return 0, api.CodeShift
		}
		return shift(a, uint64(b)), api.CodeNone
	}
}

// truth is a comparison's number.
func truth(holds bool) int64 {
	if holds {
		return 1
	}
	return 0
}
