package vary_test

import (
	"bytes"
	"fmt"
	"math"
	"testing"

	"backstay/api"
	"backstay/vary"
)

// A reading is one call on a Reel; what it answers is told as text.
type reading func(r *vary.Reel) (string, api.Errno)

func asNumber(most uint64) reading {
	return func(r *vary.Reel) (string, api.Errno) {
		n, e := r.Number(most)
		return fmt.Sprint(n), e
	}
}

func asSigned(least, most int64) reading {
	return func(r *vary.Reel) (string, api.Errno) {
		n, e := r.Signed(least, most)
		return fmt.Sprint(n), e
	}
}

func asBytes(most int) reading {
	return func(r *vary.Reel) (string, api.Errno) {
		b, e := r.Bytes(most)
		return fmt.Sprintf("% X", b), e
	}
}

func asRaw(n int) reading {
	return func(r *vary.Reel) (string, api.Errno) {
		b, e := r.Raw(n)
		return fmt.Sprintf("% X", b), e
	}
}

// A readCase is bytes, a call on them, what it answers, and how far it reads.
type readCase struct {
	bytes string
	read  reading
	want  string
	err   api.Errno
	far   int
}

// check holds each case at the beginning of a Reel, and behind bytes that were read before.
func check(t *testing.T, cases []readCase) {
	t.Helper()
	for i, c := range cases {
		for before := range 3 {
			r := vary.On(append(make([]byte, before), unhex(t, c.bytes)...))
			if _, e := r.Raw(before); e != api.OK {
				t.Fatal(e)
			}
			got, e := c.read(r)
			if got != c.want || e != c.err {
				t.Errorf("case %d (%s) behind %d bytes: %q, error %d; want %q, error %d", i, c.bytes, before, got, e, c.want, c.err)
			}
			if r.At() != before+c.far {
				t.Errorf("case %d (%s) behind %d bytes: the place is %d, want %d", i, c.bytes, before, r.At(), before+c.far)
			}
		}
	}
}

// P1.2: a number is read up to most, and the place is behind it.
func TestP1_2Number(t *testing.T) {
	check(t, []readCase{
		{"00", asNumber(0), "0", api.OK, 1},
		{"7F", asNumber(127), "127", api.OK, 1},
		{"7F FF", asNumber(127), "127", api.OK, 1},
		{"81 2C", asNumber(300), "300", api.OK, 2},
		{"81 2C 00", asNumber(math.MaxUint64), "300", api.OK, 2},
		{"FE FF FF FF FF FF FF FF", asNumber(math.MaxUint64), "72057594037927935", api.OK, 8},
		{"FF 01 00 00 00 00 00 00 00", asNumber(1 << 56), "72057594037927936", api.OK, 9},
		{"FF FF FF FF FF FF FF FF FF", asNumber(math.MaxUint64), "18446744073709551615", api.OK, 9},
	})
}

// P1.2: ErrShort, where fewer bytes are there than the first one tells, whatever they are.
func TestP1_2NumberShort(t *testing.T) {
	check(t, []readCase{{"", asNumber(math.MaxUint64), "0", api.ErrShort, 0}})
	for first := range 256 {
		width := 1
		for ; width < 9 && first&(1<<(8-width)) != 0; width++ {
		}
		for size := 1; size <= 10; size++ {
			b := append([]byte{byte(first)}, bytes.Repeat([]byte{0xFF}, size-1)...)
			r := vary.On(b)
			_, e := r.Number(math.MaxUint64)
			if size < width && (e != api.ErrShort || r.At() != 0) {
				t.Errorf("% X: error %d at %d, want ErrShort at 0", b, e, r.At())
			}
			if size >= width && e == api.ErrShort {
				t.Errorf("% X: ErrShort, but its width is %d", b, width)
			}
		}
	}
}

// P1.2: ErrForm, where a number of a lesser width stands; the least number of a width does not.
func TestP1_2NumberForm(t *testing.T) {
	for w := 2; w <= 9; w++ {
		least := spelt(1 << (7 * (w - 1)))
		below := make([]byte, w)
		below[0] = byte(0xFF << (9 - w))
		// One less than the least: ones in all places that the width below has.
		for place := range 7 * (w - 1) {
			below[w-1-place/8] |= 1 << (place % 8)
		}
		zero := make([]byte, w)
		zero[0] = byte(0xFF << (9 - w))
		if n, e := vary.On(least).Number(math.MaxUint64); n != 1<<(7*(w-1)) || e != api.OK {
			t.Errorf("% X: %d, error %d", least, n, e)
		}
		for _, b := range [][]byte{below, zero} {
			r := vary.On(b)
			if n, e := r.Number(math.MaxUint64); n != 0 || e != api.ErrForm || r.At() != 0 {
				t.Errorf("% X: %d, error %d at %d, want ErrForm", b, n, e, r.At())
			}
		}
	}
}

// P1.2: ErrRange above most; and the errors' order: ErrShort, ErrForm, ErrRange.
func TestP1_2NumberRangeAndOrder(t *testing.T) {
	check(t, []readCase{
		{"01", asNumber(0), "0", api.ErrRange, 0},
		{"64", asNumber(99), "0", api.ErrRange, 0},
		{"81 2C", asNumber(299), "0", api.ErrRange, 0},
		{"FF FF FF FF FF FF FF FF FF", asNumber(math.MaxUint64 - 1), "0", api.ErrRange, 0},
		{"80 05", asNumber(99), "0", api.ErrForm, 0},
		{"80 05", asNumber(4), "0", api.ErrForm, 0},
		{"80", asNumber(99), "0", api.ErrShort, 0},
		{"C0 00", asNumber(0), "0", api.ErrShort, 0},
		{"BF", asNumber(0), "0", api.ErrShort, 0},
	})
}

// P1.2: a signed number is read from least to most, both of them allowed.
func TestP1_2Signed(t *testing.T) {
	all := asSigned(math.MinInt64, math.MaxInt64)
	check(t, []readCase{
		{"00", asSigned(0, 0), "0", api.OK, 1},
		{"01", asSigned(-1, -1), "-1", api.OK, 1},
		{"02 01", asSigned(1, 1), "1", api.OK, 1},
		{"80 81", asSigned(-65, 0), "-65", api.OK, 2},
		{"FF FF FF FF FF FF FF FF FF", all, "-9223372036854775808", api.OK, 9},
		{"FF FF FF FF FF FF FF FF FE", all, "9223372036854775807", api.OK, 9},
		{"FF FF FF FF FF FF FF FF FF", asSigned(math.MinInt64, math.MinInt64), "-9223372036854775808", api.OK, 9},
		{"FF FF FF FF FF FF FF FF FE", asSigned(math.MaxInt64, math.MaxInt64), "9223372036854775807", api.OK, 9},
	})
}

// P1.2: Signed's errors, and their order.
func TestP1_2SignedErrors(t *testing.T) {
	check(t, []readCase{
		{"", asSigned(-9, 9), "0", api.ErrShort, 0},
		{"80", asSigned(1, 0), "0", api.ErrShort, 0},
		{"80 01", asSigned(-9, 9), "0", api.ErrForm, 0},
		{"80 01", asSigned(5, 9), "0", api.ErrForm, 0},
		{"01", asSigned(0, 9), "0", api.ErrRange, 0},
		{"14", asSigned(-9, 9), "0", api.ErrRange, 0},
		{"13", asSigned(-9, 9), "0", api.ErrRange, 0},
		{"00", asSigned(1, -1), "0", api.ErrRange, 0},
		{"00", asSigned(math.MaxInt64, math.MinInt64), "0", api.ErrRange, 0},
		{"FF FF FF FF FF FF FF FF FF", asSigned(math.MinInt64+1, math.MaxInt64), "0", api.ErrRange, 0},
		{"FF FF FF FF FF FF FF FF FE", asSigned(math.MinInt64, math.MaxInt64-1), "0", api.ErrRange, 0},
	})
}

// P1.2: bytes with their length are read up to most.
func TestP1_2Bytes(t *testing.T) {
	check(t, []readCase{
		{"00", asBytes(0), "", api.OK, 1},
		{"00 07", asBytes(9), "", api.OK, 1},
		{"00", asBytes(-1), "", api.OK, 1},
		{"00", asBytes(math.MinInt), "", api.OK, 1},
		{"03 0A 0B 0C", asBytes(3), "0A 0B 0C", api.OK, 4},
		{"03 0A 0B 0C 0D", asBytes(math.MaxInt), "0A 0B 0C", api.OK, 4},
	})
	b := bytes.Repeat([]byte{7, 8, 9}, 100)
	r := vary.On(append([]byte{0x81, 0x2C}, b...))
	if got, e := r.Bytes(300); !bytes.Equal(got, b) || e != api.OK || r.At() != 302 {
		t.Errorf("300 bytes: %d, error %d at %d", len(got), e, r.At())
	}
}

// P1.2: Bytes' errors, and their order: the number's first, then those of what it says.
func TestP1_2BytesErrors(t *testing.T) {
	check(t, []readCase{
		{"", asBytes(9), "", api.ErrShort, 0},
		{"80", asBytes(0), "", api.ErrShort, 0},
		{"80 00", asBytes(9), "", api.ErrForm, 0},
		{"80 05", asBytes(2), "", api.ErrForm, 0},
		{"03 0A 0B 0C", asBytes(2), "", api.ErrRange, 0},
		{"03 0A", asBytes(2), "", api.ErrRange, 0},
		{"01 0A", asBytes(0), "", api.ErrRange, 0},
		{"01 0A", asBytes(-1), "", api.ErrRange, 0},
		{"01 0A", asBytes(math.MinInt), "", api.ErrRange, 0},
		{"03 0A 0B", asBytes(3), "", api.ErrShort, 0},
		{"01", asBytes(1), "", api.ErrShort, 0},
		{"FF 7F FF FF FF FF FF FF FF 0A", asBytes(math.MaxInt), "", api.ErrShort, 0},
		{"FF 80 00 00 00 00 00 00 00 0A", asBytes(math.MaxInt), "", api.ErrRange, 0},
		{"FF FF FF FF FF FF FF FF FF 0A", asBytes(math.MaxInt), "", api.ErrRange, 0},
	})
}

// P1.2: Raw reads the next bytes, and none of a number below 0.
func TestP1_2Raw(t *testing.T) {
	check(t, []readCase{
		{"", asRaw(0), "", api.OK, 0},
		{"0A 0B", asRaw(0), "", api.OK, 0},
		{"0A 0B", asRaw(1), "0A", api.OK, 1},
		{"80 0B", asRaw(2), "80 0B", api.OK, 2},
		{"0A 0B", asRaw(3), "", api.ErrShort, 0},
		{"", asRaw(1), "", api.ErrShort, 0},
		{"0A", asRaw(math.MaxInt), "", api.ErrShort, 0},
		{"0A", asRaw(-1), "", api.ErrArg, 0},
		{"", asRaw(-1), "", api.ErrArg, 0},
		{"0A", asRaw(math.MinInt), "", api.ErrArg, 0},
	})
}

// P1.2: with an error the place stays, so that what is there may be read otherwise.
func TestP1_2PlaceStaysWithAnError(t *testing.T) {
	r := vary.On(unhex(t, "00 83 20 01"))
	if _, e := r.Number(0); e != api.OK {
		t.Fatal(e)
	}
	for i, read := range []reading{asNumber(799), asSigned(401, 500), asBytes(900), asBytes(5), asRaw(4), asRaw(-1)} {
		if got, e := read(r); e == api.OK || r.At() != 1 {
			t.Errorf("call %d: %s, error %d at %d, want an error at 1", i, got, e, r.At())
		}
	}
	if n, e := r.Signed(400, 400); n != 400 || e != api.OK || r.At() != 3 {
		t.Errorf("%d, error %d at %d", n, e, r.At())
	}
}

// P1.3: At is how many bytes were read; End is ErrTail but behind all of them.
func TestP1_3AtAndEnd(t *testing.T) {
	r := vary.On(unhex(t, "81 2C 01 02 0A 0B 0C"))
	tell := func(at int, end api.Errno) {
		t.Helper()
		if r.At() != at || r.End() != end {
			t.Errorf("at %d, end %d; want %d, %d", r.At(), r.End(), at, end)
		}
	}
	tell(0, api.ErrTail)
	r.Number(300)
	tell(2, api.ErrTail)
	r.Signed(-1, -1)
	tell(3, api.ErrTail)
	r.Bytes(2)
	tell(6, api.ErrTail)
	r.Number(11)
	tell(6, api.ErrTail)
	r.Raw(1)
	tell(7, api.OK)
	r.Number(1)
	tell(7, api.OK)
	for _, b := range [][]byte{nil, {}} {
		if r := vary.On(b); r == nil || r.At() != 0 || r.End() != api.OK {
			t.Error("of no bytes: not at the end")
		}
	}
}

// A Reel that nobody made has no bytes.
func TestZeroReel(t *testing.T) {
	for _, c := range []struct {
		read reading
		want string
		err  api.Errno
	}{
		{asNumber(9), "0", api.ErrShort},
		{asSigned(-9, 9), "0", api.ErrShort},
		{asBytes(9), "", api.ErrShort},
		{asRaw(1), "", api.ErrShort},
		{asRaw(-1), "", api.ErrArg},
		{asRaw(0), "", api.OK},
	} {
		var r vary.Reel
		if got, e := c.read(&r); got != c.want || e != c.err {
			t.Errorf("%q, error %d; want %q, error %d", got, e, c.want, c.err)
		}
		if r.At() != 0 || r.End() != api.OK {
			t.Errorf("at %d, end %d", r.At(), r.End())
		}
	}
}

// Calls on none answer ErrNil, whatever else is wrong; At, that has no error, 0.
func TestNilReel(t *testing.T) {
	var none *vary.Reel
	for i, c := range []struct {
		read reading
		want string
	}{
		{asNumber(9), "0"}, {asSigned(-9, 9), "0"}, {asSigned(9, -9), "0"}, {asBytes(9), ""}, {asBytes(-1), ""}, {asRaw(0), ""}, {asRaw(-1), ""},
	} {
		if got, e := c.read(none); got != c.want || e != api.ErrNil {
			t.Errorf("call %d: %q, error %d; want %q, ErrNil", i, got, e, c.want)
		}
	}
	if none.At() != 0 || none.End() != api.ErrNil {
		t.Errorf("at %d, end %d", none.At(), none.End())
	}
}

// P1.4: a Reel's bytes are not those that were handed in, and these are only read.
func TestP1_4ReelKeepsNothing(t *testing.T) {
	b := []byte{0x81, 0x2C, 2, 5, 6}
	r := vary.On(b)
	r.Number(300)
	if !bytes.Equal(b, []byte{0x81, 0x2C, 2, 5, 6}) {
		t.Errorf("what was handed in is % X", b)
	}
	clear(b)
	if got, e := r.Bytes(2); !bytes.Equal(got, []byte{5, 6}) || e != api.OK {
		t.Errorf("% X, error %d", got, e)
	}
}

// P1.4: bytes that are answered are new memory, with the room behind them: a copy of the Reel still reads what there was.
func TestP1_4ReadBytesAreNew(t *testing.T) {
	r := vary.On([]byte{2, 5, 6, 7, 8})
	again := *r
	one, _ := r.Bytes(2)
	two, _ := r.Raw(1)
	clear(one[:cap(one)])
	if !bytes.Equal(two, []byte{7}) {
		t.Errorf("% X", two)
	}
	clear(two[:cap(two)])
	if got, e := r.Raw(1); !bytes.Equal(got, []byte{8}) || e != api.OK {
		t.Errorf("% X, error %d", got, e)
	}
	if got, e := again.Raw(5); !bytes.Equal(got, []byte{2, 5, 6, 7, 8}) || e != api.OK {
		t.Errorf("% X, error %d", got, e)
	}
}
