package alu

import "backstay/api"

// unary makes a number of one; nothing can be wrong with it.
type unary func(a int64) int64

// narrow are the integers into which a number is converted.
type narrow interface {
	int8 | int16 | int32 | uint8 | uint16 | uint32
}

// unaries are the operations on one number.
func unaries() map[int]unary {
	return map[int]unary{
		api.UnNeg:  func(a int64) int64 { return -a },
		api.UnNot:  func(a int64) int64 { return ^a },
		api.UnZero: func(a int64) int64 { return truth(a == 0) },
		api.UnI8:   converted[int8],
		api.UnI16:  converted[int16],
		api.UnI32:  converted[int32],
		api.UnU8:   converted[uint8],
		api.UnU16:  converted[uint16],
		api.UnU32:  converted[uint32],
	}
}

// converted is a number's lowest bits, as many as a narrower integer has, by its sign or without one.
func converted[T narrow](a int64) int64 {
	return int64(T(a))
}
