package vary_test

import (
	"bytes"
	"encoding/hex"
	"math"
	"strconv"
	"strings"
	"testing"

	"backstay/api"
	"backstay/vary"
)

// bounds are the numbers at which widths change, with those beside them, in order.
func bounds() []uint64 {
	l := []uint64{0, 1, 2, 63, 64, 65}
	for w := 1; w <= 8; w++ {
		edge := uint64(1) << (7 * w)
		l = append(l, edge-2, edge-1, edge, edge+1)
	}
	return append(l, 300, 1<<20, math.MaxInt32, math.MaxUint32, math.MaxInt64-1, math.MaxInt64, math.MaxInt64+1, math.MaxUint64-1, math.MaxUint64)
}

// signs are signed numbers near 0, at the widths' bounds, and at both ends.
func signs() []int64 {
	l := []int64{0, 1, -1, 2, -2, math.MaxInt64, math.MinInt64, math.MaxInt64 - 1, math.MinInt64 + 1}
	for w := 1; w <= 8; w++ {
		edge := int64(1) << (7*w - 1)
		l = append(l, edge-1, edge, edge+1, 1-edge, -edge, -edge-1)
	}
	return l
}

// spelt is a number's bytes by the chapter's words alone: bits as text.
func spelt(n uint64) []byte {
	digits := strconv.FormatUint(n, 2)
	w := 1
	for w < 9 && len(digits) > 7*w {
		w++
	}
	room, lead := 7*w, strings.Repeat("1", w-1)+"0"
	if w == 9 {
		room, lead = 64, "11111111"
	}
	text := lead + strings.Repeat("0", room-len(digits)) + digits
	b := make([]byte, 0, w)
	for ; text != ""; text = text[8:] {
		x, _ := strconv.ParseUint(text[:8], 2, 8)
		b = append(b, byte(x))
	}
	return b
}

// unhex is the bytes of a text of hexadecimal digits and spaces.
func unhex(t *testing.T, s string) []byte {
	t.Helper()
	b, err := hex.DecodeString(strings.ReplaceAll(s, " ", ""))
	if err != nil {
		t.Fatal(err)
	}
	return b
}

func number(n uint64) []byte { return new(vary.Tape).Number(n).All() }

func signed(n int64) []byte { return new(vary.Tape).Signed(n).All() }

// P1.1: a number's width is the least w from 1 to 8 with the number below 2^(7 w); 9, if there is none.
func TestP1_1Width(t *testing.T) {
	for w := 1; w <= 8; w++ {
		edge := uint64(1) << (7 * w)
		if got := vary.Width(edge - 1); got != w {
			t.Errorf("Width(2^%d - 1) = %d, want %d", 7*w, got, w)
		}
		if got := vary.Width(edge); got != w+1 {
			t.Errorf("Width(2^%d) = %d, want %d", 7*w, got, w+1)
		}
	}
	for n, w := range map[uint64]int{0: 1, 1: 1, 1 << 62: 9, 1 << 63: 9, math.MaxUint64: 9} {
		if got := vary.Width(n); got != w {
			t.Errorf("Width(%d) = %d, want %d", n, got, w)
		}
	}
}

// P1.1: zigzag is 2 n, below 0 it is -2 n - 1; Zag is the way back, from every number.
func TestP1_1ZigZag(t *testing.T) {
	for n, z := range map[int64]uint64{
		0: 0, -1: 1, 1: 2, -2: 3, 2: 4, 63: 126, -64: 127, 64: 128, -65: 129,
		math.MaxInt64: math.MaxUint64 - 1, math.MinInt64: math.MaxUint64,
		math.MaxInt64 - 1: math.MaxUint64 - 3, math.MinInt64 + 1: math.MaxUint64 - 2,
	} {
		if got := vary.Zig(n); got != z {
			t.Errorf("Zig(%d) = %d, want %d", n, got, z)
		}
		if got := vary.Zag(z); got != n {
			t.Errorf("Zag(%d) = %d, want %d", z, got, n)
		}
	}
	for _, n := range signs() {
		if got := vary.Zag(vary.Zig(n)); got != n {
			t.Errorf("Zag(Zig(%d)) = %d", n, got)
		}
	}
	for _, n := range bounds() {
		if got := vary.Zig(vary.Zag(n)); got != n {
			t.Errorf("Zig(Zag(%d)) = %d", n, got)
		}
	}
}

// P1.1: the bytes of numbers at each width's bounds, byte by byte.
func TestP1_1NumbersBytes(t *testing.T) {
	for _, c := range []struct {
		n    uint64
		want string
	}{
		{0, "00"},
		{1, "01"},
		{1<<7 - 1, "7F"},
		{1 << 7, "80 80"},
		{1<<14 - 1, "BF FF"},
		{1 << 14, "C0 40 00"},
		{1<<21 - 1, "DF FF FF"},
		{1 << 21, "E0 20 00 00"},
		{1<<28 - 1, "EF FF FF FF"},
		{1 << 28, "F0 10 00 00 00"},
		{1<<35 - 1, "F7 FF FF FF FF"},
		{1 << 35, "F8 08 00 00 00 00"},
		{1<<42 - 1, "FB FF FF FF FF FF"},
		{1 << 42, "FC 04 00 00 00 00 00"},
		{1<<49 - 1, "FD FF FF FF FF FF FF"},
		{1 << 49, "FE 02 00 00 00 00 00 00"},
		{1<<56 - 1, "FE FF FF FF FF FF FF FF"},
		{1 << 56, "FF 01 00 00 00 00 00 00 00"},
		{0x0123456789ABCDEF, "FF 01 23 45 67 89 AB CD EF"},
		{math.MaxUint64, "FF FF FF FF FF FF FF FF FF"},
	} {
		if got := number(c.n); !bytes.Equal(got, unhex(t, c.want)) {
			t.Errorf("bytes of %d: % X, want %s", c.n, got, c.want)
		}
	}
}

// P1.1: the bytes of all small numbers, and of those at bounds, are as the chapter spells them.
func TestP1_1NumbersBytesAsSpelt(t *testing.T) {
	l := bounds()
	for n := range uint64(1 << 15) {
		l = append(l, n)
	}
	for _, n := range l {
		if got := number(n); !bytes.Equal(got, spelt(n)) || len(got) != vary.Width(n) {
			t.Fatalf("bytes of %d: % X, want % X; width %d", n, got, spelt(n), vary.Width(n))
		}
	}
}

// P1.1: a signed number's bytes are those of its zigzag.
func TestP1_1SignedsBytes(t *testing.T) {
	for n, want := range map[int64]string{
		0: "00", -1: "01", 1: "02", -64: "7F", 64: "80 80", -65: "80 81",
		math.MaxInt64: "FF FF FF FF FF FF FF FF FE", math.MinInt64: "FF FF FF FF FF FF FF FF FF",
	} {
		if got := signed(n); !bytes.Equal(got, unhex(t, want)) {
			t.Errorf("bytes of %d: % X, want %s", n, got, want)
		}
	}
	for _, n := range signs() {
		if got := signed(n); !bytes.Equal(got, spelt(vary.Zig(n))) {
			t.Errorf("bytes of %d: % X, want % X", n, got, spelt(vary.Zig(n)))
		}
	}
}

// The chapter's examples, row by row.
func TestExamples(t *testing.T) {
	for n, want := range map[uint64]string{
		0: "00", 127: "7F", 128: "80 80", 300: "81 2C", 16384: "C0 40 00",
		math.MaxUint64: "FF FF FF FF FF FF FF FF FF",
		1<<56 - 1:      "FE FF FF FF FF FF FF FF",
	} {
		if got := number(n); !bytes.Equal(got, unhex(t, want)) {
			t.Errorf("the bytes of %d: % X, want %s", n, got, want)
		}
	}
	for i, n := range []int64{0, -1, 1, -2} {
		if got := vary.Zig(n); got != uint64(i) {
			t.Errorf("Zig of %d: %d, want %d", n, got, i)
		}
	}
	for text, want := range map[string]api.Errno{"64": api.ErrRange, "80 05": api.ErrForm, "80": api.ErrShort} {
		if n, e := vary.On(unhex(t, text)).Number(99); n != 0 || e != want {
			t.Errorf("Number(99) of %s: %d, %d, want error %d", text, n, e, want)
		}
	}
	if n, _ := vary.On(unhex(t, "64")).Number(100); n != 100 {
		t.Errorf("64 is %d, want 100", n)
	}
	// The first of the ten examples of the whole.
	if got := signed(-1); !bytes.Equal(got, []byte{1}) {
		t.Errorf("the bytes of -1: % X, want 01", got)
	}
}
