package alu_test

import (
	"testing"

	"backstay/alu"
	"backstay/api"
)

// unaryCase is what an operation makes of a number.
type unaryCase struct {
	op   int
	a, n int64
}

// checkUnary holds an operation to what it should make.
func checkUnary(t *testing.T, c unaryCase) {
	t.Helper()
	if n, e := alu.Unary(c.op, c.a); n != c.n || e != api.OK {
		t.Errorf("op %d of %d: %d, error %d; want %d", c.op, c.a, n, e, c.n)
	}
}

// P3.1: -a, wrapped; each bit turned; 1 of 0.
func TestP3_1Turned(t *testing.T) {
	for _, c := range []unaryCase{
		{0, 0, 0},
		{0, 5, -5},
		{0, -5, 5},
		{0, greatest, -greatest},
		{0, least, least},
		{1, 0, -1},
		{1, -1, 0},
		{1, 5, -6},
		{1, greatest, least},
		{1, least, greatest},
		{2, 0, 1},
		{2, 1, 0},
		{2, -1, 0},
		{2, 2, 0},
		{2, 256, 0},
		{2, 1 << 32, 0},
		{2, greatest, 0},
		{2, least, 0},
	} {
		checkUnary(t, c)
	}
}

// P3.1: the highest of the lowest 8, 16, 32 bits is the sign.
func TestP3_1Signed(t *testing.T) {
	for _, c := range []unaryCase{
		{3, 0, 0}, {3, 127, 127}, {3, 128, -128}, {3, 129, -127}, {3, 200, -56}, {3, 255, -1}, {3, 256, 0}, {3, 257, 1},
		{3, -1, -1}, {3, -128, -128}, {3, -129, 127}, {3, -256, 0}, {3, greatest, -1}, {3, least, 0},
		{4, 0, 0}, {4, 200, 200}, {4, 32767, 32767}, {4, 32768, -32768}, {4, 65535, -1}, {4, 65536, 0}, {4, 65537, 1},
		{4, -1, -1}, {4, -32768, -32768}, {4, -32769, 32767}, {4, -65536, 0}, {4, greatest, -1}, {4, least, 0},
		{5, 0, 0}, {5, 40000, 40000}, {5, 2147483647, 2147483647}, {5, 2147483648, -2147483648}, {5, 4294967295, -1}, {5, 4294967296, 0}, {5, 4294967297, 1},
		{5, -1, -1}, {5, -2147483648, -2147483648}, {5, -2147483649, 2147483647}, {5, -4294967296, 0}, {5, greatest, -1}, {5, least, 0},
	} {
		checkUnary(t, c)
	}
}

// P3.1: the lowest 8, 16, 32 bits alone, with no sign.
func TestP3_1Unsigned(t *testing.T) {
	for _, c := range []unaryCase{
		{6, 0, 0}, {6, 127, 127}, {6, 128, 128}, {6, 255, 255}, {6, 256, 0}, {6, 257, 1},
		{6, -1, 255}, {6, -128, 128}, {6, -129, 127}, {6, -256, 0}, {6, greatest, 255}, {6, least, 0},
		{7, 0, 0}, {7, 32767, 32767}, {7, 32768, 32768}, {7, 65535, 65535}, {7, 65536, 0}, {7, 65537, 1},
		{7, -1, 65535}, {7, -32768, 32768}, {7, -32769, 32767}, {7, -65536, 0}, {7, greatest, 65535}, {7, least, 0},
		{8, 0, 0}, {8, 2147483647, 2147483647}, {8, 2147483648, 2147483648}, {8, 4294967295, 4294967295}, {8, 4294967296, 0}, {8, 4294967297, 1},
		{8, -1, 4294967295}, {8, -2147483648, 2147483648}, {8, -2147483649, 2147483647}, {8, -4294967296, 0}, {8, greatest, 4294967295}, {8, least, 0},
	} {
		checkUnary(t, c)
	}
}

// P3.1: of all numbers each operation makes what the chapter says, worked out with numbers that have no end.
func TestP3_1Unary(t *testing.T) {
	for op := range api.Uns {
		for _, a := range numbers() {
			checkUnary(t, unaryCase{op, a, wantUnary(op, a)})
		}
	}
}

// P3.1: ErrOp, and nothing else, of an operation that there is not, even if there is such a one on two numbers.
func TestP3_1UnaryOfNoOp(t *testing.T) {
	for _, op := range append(noOps(api.Uns), api.BinShr, api.BinLt, api.BinLe, api.BinEq, api.Bins) {
		for _, a := range []int64{0, 1, -1, least, greatest} {
			if n, e := alu.Unary(op, a); n != 0 || e != api.ErrOp {
				t.Errorf("op %d of %d: %d, error %d; want ErrOp", op, a, n, e)
			}
		}
	}
}
