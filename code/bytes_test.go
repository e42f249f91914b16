package code_test

import (
	"bytes"
	"slices"
	"testing"

	"backstay/api"
	"backstay/code"
	"backstay/vary"
)

// P5.1: a body is read wherever its bytes stand, whatever stands behind, and the Reel's place is behind it.
func TestP5_1Decode(t *testing.T) {
	for _, l := range append(short(), many(t)...) {
		if !isBody(l) {
			continue
		}
		for _, ahead := range []int{0, 1, 5} {
			for _, tail := range [][]byte{nil, {0}, {0x18}, {0xFF}, {1, 0x18}, {0x80, 0x05}} {
				b := append(make([]byte, ahead), bytesOf(l)...)
				r := vary.On(append(b, tail...))
				if _, e := r.Raw(ahead); e != api.OK {
					t.Fatal(e)
				}
				if got, e := code.Decode(r); !slices.Equal(got, l) || e != api.OK || r.At() != len(b) {
					t.Errorf("%v behind %d, ahead of % X: %v, error %d at %d", l, ahead, tail, got, e, r.At())
				}
				if rest, e := r.Raw(len(tail)); !bytes.Equal(rest, tail) || e != api.OK || r.End() != api.OK {
					t.Errorf("%v: behind it % X, error %d; want % X", l, rest, e, tail)
				}
			}
		}
	}
}

// P5.1: bodies one behind the other are read one by one.
func TestP5_1DecodeOneByOne(t *testing.T) {
	var b []byte
	for _, l := range many(t) {
		b = append(b, bytesOf(l)...)
	}
	r := vary.On(b)
	for _, l := range many(t) {
		if got, e := code.Decode(r); !slices.Equal(got, l) || e != api.OK {
			t.Fatalf("%v: %v, error %d", l, got, e)
		}
	}
	if e := r.End(); e != api.OK {
		t.Error(e)
	}
}

// P5.1: bytes that are cut are ErrCode, wherever that is.
func TestP5_1DecodeOfCut(t *testing.T) {
	for _, l := range many(t) {
		b := bytesOf(l)
		for cut := range b {
			if got, e := code.Decode(vary.On(b[:cut])); len(got) != 0 || e != api.ErrCode {
				t.Errorf("%d bytes of a body of %d: %v, error %d; want ErrCode", cut, len(l), got, e)
			}
		}
	}
}

// P5.1: bytes that are no body's, each with bytes behind it, too.
func TestP5_1DecodeOfWrong(t *testing.T) {
	for _, s := range []string{
		"00",
		"00 18",
		"00 00 18",
		"80 00",
		"80 01 18",
		"C0 00 01 18",
		"FF 00 00 00 00 00 00 00 01 18",
		"FF FF FF FF FF FF FF FF FF",
		"FF 80 00 00 00 00 00 00 01 18",

		"01 00",
		"01 1D",
		"02 18 00",
		"02 18 13 00",
		"01 13 00",
		"01 12 01",
		"02 12 02 18",
		"02 13 02 18",
		"02 13 81 FF 18",
		"02 00 12 02",

		"01 1E",
		"01 FF",
		"02 1E 18",
		"02 18 1E",
		"01 80 18",
		"02 02 00 18",
		"02 02 05 18",
		"02 03 40 18",
		"02 09 00 04 18",
		"02 09 00 00 18",
		"02 0F 0E 18",
		"02 10 09 18",
		"02 01 80 05 18",
		"02 13 82 00 18",
		"02 13 80 00 18",
	} {
		for _, tail := range []string{"", "18", "00 00 18", "01 18"} {
			b := unhex(t, s+tail)
			if l, e := code.Decode(vary.On(b)); len(l) != 0 || e != api.ErrCode {
				t.Errorf("% X: %v, error %d; want ErrCode", b, l, e)
			}
		}
	}
}

// P5.1: as many instructions as there may be are read, and no more; of fewer none is left out.
func TestP5_1DecodeCount(t *testing.T) {
	for _, n := range []int{1, 2, 127, 128, 511, 512} {
		if l, e := code.Decode(vary.On(bytesOf(long(n)))); !slices.Equal(l, long(n)) || e != api.OK {
			t.Errorf("of %d: %d, error %d", n, len(l), e)
		}
	}
	for _, head := range []string{"82 01", "82 02", "BF FF", "C1 00 00"} {
		b := unhex(t, head)
		for range 1 << 17 {
			b = append(b, 0x18)
		}
		if l, e := code.Decode(vary.On(b)); len(l) != 0 || e != api.ErrCode {
			t.Errorf("% X and rets: %d, error %d; want ErrCode", b[:3], len(l), e)
		}
	}
	// One more is told than there is, and one less.
	if l, e := code.Decode(vary.On(unhex(t, "03 00 18"))); len(l) != 0 || e != api.ErrCode {
		t.Errorf("%v, error %d; want ErrCode", l, e)
	}
	if l, e := code.Decode(vary.On(unhex(t, "01 00 18"))); len(l) != 0 || e != api.ErrCode {
		t.Errorf("%v, error %d; want ErrCode", l, e)
	}
	r := vary.On(unhex(t, "01 18 18"))
	if l, e := code.Decode(r); !slices.Equal(l, texts(t, "ret")) || e != api.OK || r.At() != 2 {
		t.Errorf("%v, error %d at %d", l, e, r.At())
	}
}

// P5.1: no Reel, one that nobody made, and one behind its end have no body's bytes.
func TestP5_1DecodeOfNone(t *testing.T) {
	spent := vary.On([]byte{1, 0x18})
	if _, e := code.Decode(spent); e != api.OK {
		t.Fatal(e)
	}
	for _, r := range []*vary.Reel{nil, {}, vary.On(nil), spent} {
		if l, e := code.Decode(r); len(l) != 0 || e != api.ErrCode {
			t.Errorf("%v, error %d; want ErrCode", l, e)
		}
	}
}

// P5.1: whatever three bytes there are, what is read of them is a body, and these were its bytes.
func TestP5_1DecodeOfAny(t *testing.T) {
	read := 0
	for n := range 5 << 16 {
		b := []byte{byte(n >> 16), byte(n >> 8), byte(n)}
		r := vary.On(b)
		l, e := code.Decode(r)
		switch {
		case e == api.OK:
			read++
			if !isBody(l) || !bytes.Equal(bytesOf(l), b[:r.At()]) {
				t.Fatalf("% X: %v", b, l)
			}
		case e != api.ErrCode || len(l) != 0:
			t.Fatalf("% X: %v, error %d", b, l, e)
		}
	}
	// A body of one: ret, panic or goexit, with any byte behind it, or jmp 0. A body of two: any without operands, and one of those three.
	if want := 3*256 + 1 + 3*without(t); read != want {
		t.Errorf("%d were read; want %d", read, want)
	}
}

// without is how many ops have no operand, by the chapter on them.
func without(t *testing.T) int {
	t.Helper()
	return len(texts(t, "nop, ldp, stp, dup, drop, swap, ret, panic, recover, goexit, print, in"))
}
