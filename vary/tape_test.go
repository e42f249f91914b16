package vary_test

import (
	"bytes"
	"slices"
	"testing"

	"backstay/vary"
)

// P1.1: what is written stands one behind the other, and each call answers the Tape itself.
func TestP1_1TapeWritesOn(t *testing.T) {
	var x vary.Tape
	for i, got := range []*vary.Tape{x.Number(300), x.Signed(-1), x.Bytes([]byte("hello")), x.Bytes(nil), x.Number(0)} {
		if got != &x {
			t.Errorf("call %d did not answer the Tape itself", i)
		}
	}
	want := []byte{0x81, 0x2C, 1, 5, 'h', 'e', 'l', 'l', 'o', 0, 0}
	if got := x.All(); !bytes.Equal(got, want) {
		t.Errorf("% X, want % X", got, want)
	}
	if got := x.All(); !bytes.Equal(got, want) {
		t.Errorf("All took something away: % X, want % X", got, want)
	}
}

// P1.1: bytes stand behind how many they are, whatever width that has.
func TestP1_1BytesWithLength(t *testing.T) {
	for _, size := range []int{0, 1, 127, 128, 300, 16383, 16384, 100000} {
		b := bytes.Repeat([]byte{0xA5}, size)
		want := append(spelt(uint64(size)), b...)
		if got := new(vary.Tape).Bytes(b).All(); !bytes.Equal(got, want) {
			t.Errorf("of %d bytes: %d bytes, want %d", size, len(got), len(want))
		}
	}
}

// A Tape that nobody made has no bytes.
func TestZeroTape(t *testing.T) {
	var x vary.Tape
	if got := x.All(); len(got) != 0 {
		t.Errorf("All: % X", got)
	}
}

// Calls on none answer nothing.
func TestNilTape(t *testing.T) {
	var none *vary.Tape
	if none.Number(1) != nil || none.Signed(1) != nil || none.Bytes([]byte{1}) != nil || none.Bytes(nil) != nil {
		t.Error("a call on none answered a Tape")
	}
	if got := none.All(); len(got) != 0 {
		t.Errorf("All: % X", got)
	}
}

// P1.4: bytes that were written are not those that were handed in, and these are only read.
func TestP1_4TapeKeepsNothing(t *testing.T) {
	var x vary.Tape
	b := []byte{1, 2, 3, 4, 5}
	x.Bytes(b[1:3])
	if !bytes.Equal(b, []byte{1, 2, 3, 4, 5}) {
		t.Errorf("what was handed in is % X", b)
	}
	clear(b)
	if got := x.All(); !bytes.Equal(got, []byte{2, 2, 3}) {
		t.Errorf("% X", got)
	}
}

// P1.4: what All answers is new memory, with its room behind it.
func TestP1_4AllIsNew(t *testing.T) {
	var x vary.Tape
	x.Number(7).Number(8)
	one, two := x.All(), x.All()
	clear(one[:cap(one)])
	x.Number(9)
	clear(two[:cap(two)])
	if got := x.All(); !bytes.Equal(got, []byte{7, 8, 9}) {
		t.Errorf("% X", got)
	}
	last := x.All()
	x.Number(10)
	if !bytes.Equal(last, []byte{7, 8, 9}) {
		t.Errorf("% X", last)
	}
}

// P1.4: copies of a Tape share no memory that is written: at no length does one see what another wrote.
func TestP1_4CopiedTapesGoApart(t *testing.T) {
	var first vary.Tape
	var want []byte
	for i := range 40 {
		second, third := first, first
		second.Number(100).Number(101)
		third.Signed(-60)
		first.Number(uint64(i))
		want = append(want, byte(i))
		if got := first.All(); !bytes.Equal(got, want) {
			t.Fatalf("the first: % X, want % X", got, want)
		}
		if got := second.All(); !bytes.Equal(got, append(slices.Clone(want[:i]), 100, 101)) {
			t.Fatalf("the second behind %d bytes: % X", i, got)
		}
		if got := third.All(); !bytes.Equal(got, append(slices.Clone(want[:i]), 119)) {
			t.Fatalf("the third behind %d bytes: % X", i, got)
		}
	}
}
