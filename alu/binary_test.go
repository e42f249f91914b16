package alu_test

import (
	"math"
	"testing"

	"backstay/alu"
	"backstay/api"
)

// least and greatest are the ends of what a number may be.
const (
	least    = math.MinInt64
	greatest = math.MaxInt64
)

// binaryCase is what an operation makes of two numbers, or the code of what is wrong.
type binaryCase struct {
	op      int
	a, b, n int64
	code    int
}

// check holds an operation to what it should make.
func check(t *testing.T, c binaryCase) {
	t.Helper()
	n, code, e := alu.Binary(c.op, c.a, c.b)
	if n != c.n || code != c.code || e != api.OK {
		t.Errorf("op %d of %d, %d: %d, code %d, error %d; want %d, code %d", c.op, c.a, c.b, n, code, e, c.n, c.code)
	}
}

// P3.1: sums, differences and products are wrapped.
func TestP3_1Wrapped(t *testing.T) {
	for _, c := range []binaryCase{
		{0, 2, 3, 5, 0},
		{0, 2, -3, -1, 0},
		{0, greatest, 1, least, 0},
		{0, least, -1, greatest, 0},
		{0, least, least, 0, 0},
		{0, greatest, greatest, -2, 0},
		{1, 2, 3, -1, 0},
		{1, 3, 2, 1, 0},
		{1, least, 1, greatest, 0},
		{1, greatest, -1, least, 0},
		{1, 0, least, least, 0},
		{1, -1, least, greatest, 0},
		{2, -4, 6, -24, 0},
		{2, least, -1, least, 0},
		{2, greatest, 2, -2, 0},
		{2, greatest, greatest, 1, 0},
		{2, least, least, 0, 0},
		{2, 1 << 32, 1 << 31, least, 0},
		{2, 1 << 32, 1 << 32, 0, 0},
		{2, 4294967297, 4294967297, 8589934593, 0},
	} {
		check(t, c)
	}
}

// P3.1: quotients go towards 0, and a division by 0 is CodeDiv, of quotient and remainder.
func TestP3_1Divided(t *testing.T) {
	for _, c := range []binaryCase{
		{3, 7, 2, 3, 0},
		{3, -7, 2, -3, 0},
		{3, 7, -2, -3, 0},
		{3, -7, -2, 3, 0},
		{3, 1, 2, 0, 0},
		{3, -1, 2, 0, 0},
		{3, 0, 5, 0, 0},
		{3, least, -1, least, 0},
		{3, least, 1, least, 0},
		{3, least, 2, -1 << 62, 0},
		{3, least, least, 1, 0},
		{3, greatest, least, 0, 0},
		{3, least, greatest, -1, 0},
		{3, greatest, -1, -greatest, 0},
		{3, 1, 0, 0, api.CodeDiv},
		{3, 0, 0, 0, api.CodeDiv},
		{3, least, 0, 0, api.CodeDiv},
		{3, greatest, 0, 0, api.CodeDiv},
		{4, 7, 2, 1, 0},
		{4, -7, 2, -1, 0},
		{4, 7, -2, 1, 0},
		{4, -7, -2, -1, 0},
		{4, 6, 3, 0, 0},
		{4, 1, 2, 1, 0},
		{4, least, -1, 0, 0},
		{4, least, 1, 0, 0},
		{4, least, 10, -8, 0},
		{4, least, greatest, -1, 0},
		{4, greatest, least, greatest, 0},
		{4, 1, 0, 0, api.CodeDiv},
		{4, 0, 0, 0, api.CodeDiv},
		{4, least, 0, 0, api.CodeDiv},
		{4, greatest, 0, 0, api.CodeDiv},
	} {
		check(t, c)
	}
}

// P3.1: of both, of one at least, of just one, of a and not of b.
func TestP3_1Bits(t *testing.T) {
	for _, c := range []binaryCase{
		{5, 0b1100, 0b1010, 0b1000, 0},
		{5, -1, 7, 7, 0},
		{5, least, -1, least, 0},
		{5, least, greatest, 0, 0},
		{6, 0b1100, 0b1010, 0b1110, 0},
		{6, least, greatest, -1, 0},
		{6, -8, 3, -5, 0},
		{7, 0b1100, 0b1010, 0b0110, 0},
		{7, -1, 7, -8, 0},
		{7, least, -1, greatest, 0},
		{7, 5, 5, 0, 0},
		{8, 0b1100, 0b1010, 0b0100, 0},
		{8, 0b1010, 0b1100, 0b0010, 0},
		{8, -1, greatest, least, 0},
		{8, 7, -1, 0, 0},
	} {
		check(t, c)
	}
}

// P3.1: shifts by 0, 63, 64 and more; by less than 0 they are CodeShift, whatever is shifted.
func TestP3_1Shifted(t *testing.T) {
	for _, c := range []binaryCase{
		{9, 5, 0, 5, 0},
		{9, -5, 0, -5, 0},
		{9, 5, 1, 10, 0},
		{9, -5, 1, -10, 0},
		{9, 1, 62, 1 << 62, 0},
		{9, 1, 63, least, 0},
		{9, -1, 63, least, 0},
		{9, 2, 63, 0, 0},
		{9, 3, 63, least, 0},
		{9, greatest, 1, -2, 0},
		{9, least, 1, 0, 0},
		{9, 1, 64, 0, 0},
		{9, -1, 64, 0, 0},
		{9, 1, 65, 0, 0},
		{9, 1, 256, 0, 0},
		{9, 1, 1 << 32, 0, 0},
		{9, -1, greatest, 0, 0},
		{9, 1, -1, 0, api.CodeShift},
		{9, 0, -1, 0, api.CodeShift},
		{9, 1, -64, 0, api.CodeShift},
		{9, 5, least, 0, api.CodeShift},
		{10, 5, 0, 5, 0},
		{10, -5, 0, -5, 0},
		{10, 5, 1, 2, 0},
		{10, -5, 1, -3, 0},
		{10, -1, 1, -1, 0},
		{10, least, 62, -2, 0},
		{10, least, 63, -1, 0},
		{10, greatest, 62, 1, 0},
		{10, greatest, 63, 0, 0},
		{10, least, 64, -1, 0},
		{10, greatest, 64, 0, 0},
		{10, -1, 65, -1, 0},
		{10, 1, 65, 0, 0},
		{10, 0, 64, 0, 0},
		{10, -1, 1 << 32, -1, 0},
		{10, least, greatest, -1, 0},
		{10, greatest, greatest, 0, 0},
		{10, 1, -1, 0, api.CodeShift},
		{10, -1, -1, 0, api.CodeShift},
		{10, 0, -64, 0, api.CodeShift},
		{10, -5, least, 0, api.CodeShift},
	} {
		check(t, c)
	}
}

// P3.1: numbers are compared with their signs.
func TestP3_1Compared(t *testing.T) {
	for _, c := range []struct{ a, b, lt, le, eq int64 }{
		{1, 2, 1, 1, 0},
		{2, 1, 0, 0, 0},
		{2, 2, 0, 1, 1},
		{0, 0, 0, 1, 1},
		{-1, 0, 1, 1, 0},
		{0, -1, 0, 0, 0},
		{-1, 1, 1, 1, 0},
		{least, greatest, 1, 1, 0},
		{greatest, least, 0, 0, 0},
		{least, least, 0, 1, 1},
		{greatest, greatest, 0, 1, 1},
		{least, 0, 1, 1, 0},
		{1, 1 + 1<<32, 1, 1, 0},
	} {
		check(t, binaryCase{11, c.a, c.b, c.lt, 0})
		check(t, binaryCase{12, c.a, c.b, c.le, 0})
		check(t, binaryCase{13, c.a, c.b, c.eq, 0})
	}
}

// P3.1: of all pairs of numbers each operation makes what the chapter says, worked out with numbers that have no end.
func TestP3_1Binary(t *testing.T) {
	for op := range api.Bins {
		for _, a := range numbers() {
			for _, b := range numbers() {
				n, code := wantBinary(op, a, b)
				check(t, binaryCase{op, a, b, n, code})
			}
		}
	}
}

// P3.1: ErrOp, and nothing else, of an operation that there is not, whatever would be wrong with its numbers.
func TestP3_1BinaryOfNoOp(t *testing.T) {
	for _, op := range noOps(api.Bins) {
		for _, b := range []int64{0, 1, -1, 64, least, greatest} {
			if n, code, e := alu.Binary(op, 5, b); n != 0 || code != 0 || e != api.ErrOp {
				t.Errorf("op %d of 5, %d: %d, code %d, error %d; want ErrOp", op, b, n, code, e)
			}
		}
	}
}

// P3.1: what was wrong once leaves nothing behind.
func TestP3_1AfterWrong(t *testing.T) {
	for range 3 {
		check(t, binaryCase{api.BinDiv, 6, 0, 0, api.CodeDiv})
		check(t, binaryCase{api.BinDiv, 6, 3, 2, 0})
		check(t, binaryCase{api.BinRem, 6, 0, 0, api.CodeDiv})
		check(t, binaryCase{api.BinShl, 6, -1, 0, api.CodeShift})
		check(t, binaryCase{api.BinRem, 6, 4, 2, 0})
		check(t, binaryCase{api.BinShr, 6, 1, 3, 0})
	}
}

// The chapter's examples.
func TestExamples(t *testing.T) {
	for _, c := range []binaryCase{
		{api.BinDiv, -7, 2, -3, api.CodeNone},
		{api.BinRem, -7, 2, -1, api.CodeNone},
		{api.BinDiv, 1, 0, 0, api.CodeDiv},
		{api.BinShr, -5, 1, -3, api.CodeNone},
		{api.BinShl, 1, 64, 0, api.CodeNone},
		{api.BinShl, 1, -1, 0, api.CodeShift},
	} {
		check(t, c)
	}
	if n, e := alu.Unary(api.UnI8, 200); n != -56 || e != api.OK {
		t.Errorf("i8 of 200: %d, error %d", n, e)
	}
	if n, e := alu.Unary(api.UnU16, -1); n != 65535 || e != api.OK {
		t.Errorf("u16 of -1: %d, error %d", n, e)
	}
}

// Example 2 of the whole: -7 by 2 is -3, and -1 is left over; the least number by -1 is itself.
func TestExampleOfTheWhole(t *testing.T) {
	check(t, binaryCase{api.BinDiv, -7, 2, -3, 0})
	check(t, binaryCase{api.BinRem, -7, 2, -1, 0})
	check(t, binaryCase{api.BinDiv, least, -1, least, 0})
}
