package vary_test

import (
	"bytes"
	"math"
	"math/rand/v2"
	"slices"
	"testing"

	"backstay/api"
	"backstay/vary"
)

// P1.5: what a Tape wrote a Reel reads, in that order.
func TestP1_5RoundTrip(t *testing.T) {
	var x vary.Tape
	for i, n := range bounds() {
		x.Number(n).Bytes(make([]byte, i*7))
	}
	for _, n := range signs() {
		x.Signed(n)
	}
	r := vary.On(x.All())
	for i, n := range bounds() {
		if got, e := r.Number(n); got != n || e != api.OK {
			t.Fatalf("%d, error %d; want %d", got, e, n)
		}
		if b, e := r.Bytes(i * 7); len(b) != i*7 || e != api.OK {
			t.Fatalf("%d bytes, error %d; want %d", len(b), e, i*7)
		}
	}
	for _, n := range signs() {
		if got, e := r.Signed(n, n); got != n || e != api.OK {
			t.Fatalf("%d, error %d; want %d", got, e, n)
		}
	}
	if e := r.End(); e != api.OK {
		t.Errorf("error %d at %d", e, r.At())
	}
}

// P1.5: numbers of all widths, put together by rule, come back, each at its place.
func TestP1_5RoundTripOfMany(t *testing.T) {
	source := rand.New(rand.NewPCG(1, 5))
	var x vary.Tape
	var l []uint64
	for i := range 5000 {
		n := source.Uint64() >> (i % 64)
		l = append(l, n)
		x.Number(n).Signed(vary.Zag(n))
	}
	r := vary.On(x.All())
	at := 0
	for _, n := range l {
		got, e := r.Number(n)
		back, f := r.Signed(math.MinInt64, math.MaxInt64)
		at += 2 * vary.Width(n)
		if got != n || e != api.OK || vary.Zig(back) != n || f != api.OK || r.At() != at {
			t.Fatalf("%d, %d, errors %d, %d at %d; want %d at %d", got, vary.Zig(back), e, f, r.At(), n, at)
		}
	}
	if r.End() != api.OK {
		t.Error("bytes are left")
	}
}

// P1.5: of all bytes there may be, a number is read only from those that a Tape writes.
func TestP1_5OneFormEach(t *testing.T) {
	for first := range 256 {
		for second := range 256 {
			for _, tail := range [][]byte{nil, {0}, {0xFF, 0, 0x80, 0, 0, 0, 0}} {
				b := append([]byte{byte(first), byte(second)}, tail...)
				r := vary.On(b)
				n, e := r.Number(math.MaxUint64)
				if e == api.OK && !bytes.Equal(number(n), b[:r.At()]) {
					t.Fatalf("% X is %d, whose bytes are % X", b, n, number(n))
				}
				if e == api.ErrRange {
					t.Fatalf("% X is out of a range that has no end", b)
				}
			}
		}
	}
}

// P1.5: numbers stand in order as their bytes do, shorter ones first, and none's are the beginning of another's.
func TestP1_5Order(t *testing.T) {
	l := bounds()
	for n := range uint64(700) {
		l = append(l, n)
	}
	slices.Sort(l)
	l = slices.Compact(l)
	for i, a := range l {
		for _, b := range l[i+1:] {
			x, y := number(a), number(b)
			if bytes.Compare(x, y) >= 0 || len(x) > len(y) {
				t.Fatalf("%d is below %d, but % X is not ahead of % X", a, b, x, y)
			}
			if bytes.HasPrefix(y, x) || bytes.HasPrefix(x, y) {
				t.Fatalf("% X, of %d, and % X, of %d, begin alike", x, a, y, b)
			}
		}
	}
}

// far is how far from 0 a number is.
func far(n int64) uint64 {
	if n < 0 {
		return -uint64(n)
	}
	return uint64(n)
}

// P1.5: a number near 0, with either sign, is no wider than one farther off.
func TestP1_5NearZero(t *testing.T) {
	l := signs()
	for n := int64(-300); n <= 300; n++ {
		l = append(l, n)
	}
	for _, a := range l {
		for _, b := range l {
			if far(a) < far(b) && len(signed(a)) > len(signed(b)) {
				t.Fatalf("%d has % X, %d has % X", a, signed(a), b, signed(b))
			}
		}
	}
}
