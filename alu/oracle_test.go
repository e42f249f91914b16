package alu_test

import (
	"math"
	"math/big"
	"math/rand/v2"

	"backstay/api"
)

// numbers are the ends of 64 bits, of each width of a conversion and of shifts, with those beside them, and some by rule.
func numbers() []int64 {
	l := []int64{0, 1, 2, 3, 5, 7, 10, -1, -2, -3, -5, -7, -10, 62, 63, 64, 65, 66, 128, -62, -63, -64, -65}
	for _, width := range []int{7, 8, 15, 16, 31, 32, 62, 63} {
		end := int64(1) << width
		l = append(l, end-1, end, end+1, -end-1, -end, -end+1)
	}
	source := rand.New(rand.NewPCG(3, 1))
	for i := range 40 {
		l = append(l, int64(source.Uint64())>>i)
	}
	return l
}

// noOps are numbers that no operation of so many has.
func noOps(ops int) []int {
	return []int{math.MinInt, math.MinInt32, -256, -2, -1, ops, ops + 1, 64, 256, 256 + 1, 1 << 16, 1<<32 + 1, math.MaxInt32, math.MaxInt}
}

// wrapped adds or takes away 2^64 until a number is within.
func wrapped(n *big.Int) int64 {
	rest := new(big.Int).Mod(n, power(64))
	if rest.Cmp(power(63)) >= 0 {
		rest.Sub(rest, power(64))
	}
	return rest.Int64()
}

// power is 2^n.
func power(n uint) *big.Int {
	return new(big.Int).Lsh(big.NewInt(1), n)
}

// bit is one of a number's bits, the lowest first: 0 or 1.
func bit(n int64, place int) int64 {
	rest := new(big.Int).Mod(big.NewInt(n), power(64))
	return int64(rest.Bit(place))
}

// bitwise is the number whose bits are told, each by those of two numbers at its place.
func bitwise(a, b int64, tell func(x, y int64) int64) int64 {
	sum := new(big.Int)
	for place := range 64 {
		if tell(bit(a, place), bit(b, place)) == 1 {
			sum.Add(sum, power(uint(place)))
		}
	}
	return wrapped(sum)
}

// one is 1 of what holds, else 0.
func one(holds bool) int64 {
	if holds {
		return 1
	}
	return 0
}

// wantBinary is what the chapter says of an operation that there is.
func wantBinary(op int, a, b int64) (n int64, code int) {
	x, y := big.NewInt(a), big.NewInt(b)
	switch op {
	case api.BinAdd:
		return wrapped(x.Add(x, y)), 0
	case api.BinSub:
		return wrapped(x.Sub(x, y)), 0
	case api.BinMul:
		return wrapped(x.Mul(x, y)), 0
	case api.BinDiv, api.BinRem:
		return wantDivided(op, x, y)
	case api.BinAnd:
		return bitwise(a, b, func(x, y int64) int64 { return one(x+y == 2) }), 0
	case api.BinOr:
		return bitwise(a, b, func(x, y int64) int64 { return one(x+y >= 1) }), 0
	case api.BinXor:
		return bitwise(a, b, func(x, y int64) int64 { return one(x+y == 1) }), 0
	case api.BinAndNot:
		return bitwise(a, b, func(x, y int64) int64 { return one(x == 1 && y == 0) }), 0
	case api.BinShl, api.BinShr:
		return wantShifted(op, x, b)
	}
	less := x.Cmp(y)
	return one(op == api.BinLt && less < 0 || op == api.BinLe && less <= 0 || op == api.BinEq && less == 0), 0
}

// wantDivided is the quotient towards 0, or what is left over.
func wantDivided(op int, x, y *big.Int) (n int64, code int) {
	if y.Sign() == 0 {
		return 0, api.CodeDiv
	}
	size := new(big.Int).Div(new(big.Int).Abs(x), new(big.Int).Abs(y))
	if x.Sign() != y.Sign() {
		size.Neg(size)
	}
	if op == api.BinDiv {
		return wrapped(size), 0
	}
	return wrapped(new(big.Int).Sub(x, size.Mul(size, y))), 0
}

// wantShifted is a number times 2^b, or by it, downwards.
func wantShifted(op int, x *big.Int, b int64) (n int64, code int) {
	switch {
	case b < 0:
		return 0, api.CodeShift
	case op == api.BinShl && b < 64:
		return wrapped(x.Mul(x, power(uint(b)))), 0
	case op == api.BinShr && b < 64:
		// The divisor is above 0, so Div goes downwards.
		return x.Div(x, power(uint(b))).Int64(), 0
	case op == api.BinShr && x.Sign() < 0:
		return -1, 0
	}
	return 0, 0
}

// wantUnary is what the chapter says of an operation that there is.
func wantUnary(op int, a int64) int64 {
	switch op {
	case api.UnNeg:
		return wrapped(new(big.Int).Neg(big.NewInt(a)))
	case api.UnNot:
		return bitwise(a, 0, func(x, _ int64) int64 { return 1 - x })
	case api.UnZero:
		return one(a == 0)
	}
	width := map[int]uint{api.UnI8: 8, api.UnI16: 16, api.UnI32: 32, api.UnU8: 8, api.UnU16: 16, api.UnU32: 32}[op]
	lowest := new(big.Int).Mod(big.NewInt(a), power(width))
	if op <= api.UnI32 && lowest.Bit(int(width)-1) == 1 {
		lowest.Sub(lowest, power(width))
	}
	return lowest.Int64()
}
