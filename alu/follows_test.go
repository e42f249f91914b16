package alu_test

import (
	"testing"

	"backstay/alu"
	"backstay/api"
)

// made is what an operation that cannot go wrong makes of two numbers.
func made(t *testing.T, op int, a, b int64) int64 {
	t.Helper()
	n, code, e := alu.Binary(op, a, b)
	if code != api.CodeNone || e != api.OK {
		t.Fatalf("op %d of %d, %d: code %d, error %d", op, a, b, code, e)
	}
	return n
}

// converted is what an operation makes of one number.
func converted(t *testing.T, op int, a int64) int64 {
	t.Helper()
	n, e := alu.Unary(op, a)
	if e != api.OK {
		t.Fatalf("op %d of %d: error %d", op, a, e)
	}
	return n
}

// size is how far from 0 a number is.
func size(n int64) uint64 {
	if n < 0 {
		return -uint64(n)
	}
	return uint64(n)
}

// P3.3: quotient times b, and the remainder, are a again; the remainder is nearer to 0 than b, and has a's sign, or is 0.
func TestP3_3Division(t *testing.T) {
	for _, a := range numbers() {
		for _, b := range numbers() {
			if b == 0 {
				continue
			}
			quotient, rest := made(t, api.BinDiv, a, b), made(t, api.BinRem, a, b)
			if back := made(t, api.BinAdd, made(t, api.BinMul, quotient, b), rest); back != a {
				t.Errorf("%d by %d: %d and %d, which are %d", a, b, quotient, rest, back)
			}
			if size(rest) >= size(b) || rest != 0 && (rest < 0) != (a < 0) {
				t.Errorf("%d by %d: %d is left over", a, b, rest)
			}
		}
	}
}

// P3.3: sums and products are those modulo 2^64.
func TestP3_3Modulo(t *testing.T) {
	for _, a := range numbers() {
		for _, b := range numbers() {
			if got := made(t, api.BinAdd, a, b); uint64(got) != uint64(a)+uint64(b) {
				t.Errorf("%d and %d: %d", a, b, got)
			}
			if got := made(t, api.BinMul, a, b); uint64(got) != uint64(a)*uint64(b) {
				t.Errorf("%d times %d: %d", a, b, got)
			}
		}
	}
}

// P3.3: add and mul are a ring's: they change places, 0 and 1 change nothing, and what is negated is taken away.
func TestP3_3Ring(t *testing.T) {
	for _, a := range numbers() {
		if made(t, api.BinAdd, a, 0) != a || made(t, api.BinMul, a, 1) != a || made(t, api.BinMul, a, 0) != 0 || made(t, api.BinAdd, a, converted(t, api.UnNeg, a)) != 0 {
			t.Errorf("%d: 0, 1 or its negative are not a ring's", a)
		}
		for _, b := range numbers() {
			if made(t, api.BinAdd, a, b) != made(t, api.BinAdd, b, a) || made(t, api.BinMul, a, b) != made(t, api.BinMul, b, a) {
				t.Errorf("%d, %d do not change places", a, b)
			}
			if made(t, api.BinSub, a, b) != made(t, api.BinAdd, a, converted(t, api.UnNeg, b)) {
				t.Errorf("%d less %d is not the sum with its negative", a, b)
			}
		}
	}
}

// P3.3: of three numbers it is the same which two are put together first, and products of sums are sums of products.
func TestP3_3RingOfThree(t *testing.T) {
	few := []int64{least, greatest}
	for i, n := range numbers() {
		if i%3 == 0 {
			few = append(few, n)
		}
	}
	add := func(a, b int64) int64 { return made(t, api.BinAdd, a, b) }
	mul := func(a, b int64) int64 { return made(t, api.BinMul, a, b) }
	for _, a := range few {
		for _, b := range few {
			for _, c := range few {
				if add(add(a, b), c) != add(a, add(b, c)) || mul(mul(a, b), c) != mul(a, mul(b, c)) || mul(a, add(b, c)) != add(mul(a, b), mul(a, c)) {
					t.Fatalf("%d, %d, %d are not a ring's", a, b, c)
				}
			}
		}
	}
}

// P3.3: converted twice is converted once; a wider conversion ahead changes nothing either.
func TestP3_3Twice(t *testing.T) {
	width := map[int]int{api.UnI8: 8, api.UnI16: 16, api.UnI32: 32, api.UnU8: 8, api.UnU16: 16, api.UnU32: 32}
	for _, a := range numbers() {
		for op := range width {
			once := converted(t, op, a)
			for ahead := range width {
				if width[ahead] < width[op] {
					continue
				}
				if twice := converted(t, op, converted(t, ahead, a)); twice != once {
					t.Errorf("%d by op %d and %d: %d, by the second alone %d", a, ahead, op, twice, once)
				}
			}
		}
	}
}
