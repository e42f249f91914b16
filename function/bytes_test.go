package function_test

import (
	"bytes"
	"slices"
	"strings"
	"testing"

	"backstay/api"
	"backstay/function"
	"backstay/vary"
)

// tails are bytes that may stand behind.
func tails() [][]byte { return [][]byte{nil, {0}, {1}, {1, 0x18}, {0xFF}, {0x80, 0x05}} }

// P7.1: bytes, written out.
func TestP7_1EncodeWrittenOut(t *testing.T) {
	ret := bodies()[0].l
	for _, c := range []struct {
		f api.Function
		b string
	}{
		{api.Function{Name: "f", Body: ret}, "01 66 00 00 00 00 01 18"},
		{api.Function{Name: "Z9", Body: ret}, "02 5A 39 00 00 00 00 01 18"},
		{api.Function{Name: "main", Sig: sig("", "I"), Body: ret}, "04 6D 61 69 6E 00 01 00 00 00 01 18"},
		{api.Function{Name: "f", Sig: sig("P", ""), Body: ret}, "01 66 01 03 00 00 00 01 18"},
		{api.Function{Name: "f", Locals: typed("P"), Body: ret}, "01 66 00 00 01 03 00 01 18"},
		{api.Function{Name: "f", Locals: typed("RRRRI"), Body: ret}, "01 66 00 00 05 55 00 00 01 18"},
		{example(), "01 66 02 0C 01 01 01 02 00 01 18"},
		{api.Function{Name: "sum", Sig: sig("II", "I"), Body: []api.Instr{{Op: api.OpLoad}, {Op: api.OpLoad, A: 1}, {Op: api.OpBin}, {Op: api.OpStore, A: 2}, {Op: api.OpRet}}}, "03 73 75 6D 02 00 01 00 00 00 05 03 00 03 01 0F 00 04 02 18"},
		{api.Function{Name: strings.Repeat("b", 32), Body: ret}, "20" + strings.Repeat(" 62", 32) + " 00 00 00 00 01 18"},
		{api.Function{Name: "f", Locals: slices.Repeat([]int{api.TypeP}, 64), Body: ret}, "01 66 00 00 40" + strings.Repeat(" FF", 16) + " 00 01 18"},
	} {
		if b, e := function.Encode(c.f); !bytes.Equal(b, unhex(t, c.b)) || e != api.OK {
			t.Errorf("%v: % X, error %d; want %s", c.f, b, e, c.b)
		}
		if f, e := function.Decode(vary.On(unhex(t, c.b))); !like(f, c.f) || e != api.OK {
			t.Errorf("%s: %v, error %d; want %v", c.b, f, e, c.f)
		}
	}
}

// P7.1: a function's bytes; none, unless it may be.
func TestP7_1Encode(t *testing.T) {
	for _, f := range functions() {
		if b, e := function.Encode(f); !bytes.Equal(b, bytesOf(t, f)) || e != api.OK {
			t.Errorf("%v: % X, error %d; want % X", f, b, e, bytesOf(t, f))
		}
	}
	for _, f := range noFunctions() {
		if b, e := function.Encode(f); len(b) != 0 || e != api.ErrFunction {
			t.Errorf("%v: % X, error %d; want ErrFunction", f, b, e)
		}
	}
}

// P7.1: a function is read wherever its bytes stand, whatever is behind, and the Reel's place is behind it.
func TestP7_1Decode(t *testing.T) {
	for _, f := range functions() {
		for _, ahead := range []int{0, 3} {
			for _, tail := range tails() {
				b := append(make([]byte, ahead), bytesOf(t, f)...)
				r := vary.On(append(b, tail...))
				if _, e := r.Raw(ahead); e != api.OK {
					t.Fatal(e)
				}
				if got, e := function.Decode(r); !like(got, f) || e != api.OK || r.At() != len(b) {
					t.Errorf("%v behind %d, ahead of % X: %v, error %d at %d", f, ahead, tail, got, e, r.At())
				}
				if rest, e := r.Raw(len(tail)); !bytes.Equal(rest, tail) || e != api.OK || r.End() != api.OK {
					t.Errorf("%v: behind it % X, error %d; want % X", f, rest, e, tail)
				}
			}
		}
	}
}

// P7.1: functions one behind the other are read one by one.
func TestP7_1DecodeOneByOne(t *testing.T) {
	var b []byte
	for _, f := range functions() {
		b = append(b, bytesOf(t, f)...)
	}
	r := vary.On(b)
	for _, f := range functions() {
		if got, e := function.Decode(r); !like(got, f) || e != api.OK {
			t.Fatalf("%v: %v, error %d", f, got, e)
		}
	}
	if e := r.End(); e != api.OK {
		t.Error(e)
	}
}

// refused fails, if a function is read of bytes.
func refused(t *testing.T, b []byte) {
	t.Helper()
	if f, e := function.Decode(vary.On(b)); !nothing(f) || e != api.ErrFunction {
		t.Errorf("% X: %v, error %d; want ErrFunction", b, f, e)
	}
}

// P7.1: bytes that are cut are ErrFunction, wherever that is.
func TestP7_1DecodeOfCut(t *testing.T) {
	for _, f := range functions() {
		b := bytesOf(t, f)
		for cut := range b {
			refused(t, b[:cut])
		}
	}
}

// P7.1: bytes one of whose parts is wrong, each with bytes behind it, too.
func TestP7_1DecodeOfWrong(t *testing.T) {
	for _, s := range []string{
		// The name's length: none, too great, more bytes than it needs.
		"00 00 00 00 00 01 18",
		"21" + strings.Repeat(" 61", 33) + " 00 00 00 00 01 18",
		"80 01 66 00 00 00 00 01 18",
		"80 80" + strings.Repeat(" 61", 128) + " 00 00 00 00 01 18",
		"FF FF FF FF FF FF FF FF FF",
		// What it is: no letter first, or none and no digit.
		"01 30 00 00 00 00 01 18",
		"01 5F 00 00 00 00 01 18",
		"01 00 00 00 00 00 01 18",
		"02 31 66 00 00 00 00 01 18",
		"02 66 5F 00 00 00 00 01 18",
		"02 66 00 00 00 00 00 01 18",
		"02 C3 A9 00 00 00 00 01 18",
		"03 66 C3 A9 00 00 00 00 01 18",
		// What it takes and gives.
		"01 66 80 00 00 00 00 01 18",
		"01 66 01 04 00 00 00 01 18",
		"01 66 00 01 03 00 00 01 18",
		"01 66 00 01 10 00 00 01 18",
		"01 66 41" + strings.Repeat(" 00", 20) + " 01 18",
		// Locals.
		"01 66 00 00 80 00 00 01 18",
		"01 66 00 00 01 04 00 01 18",
		"01 66 00 00 02 30 00 01 18",
		"01 66 00 00 41" + strings.Repeat(" 00", 18) + " 01 18",
		// Results of the locals.
		"01 66 00 00 00 01 00 01 18",
		"01 66 00 00 00 01 02 01 18",
		"01 66 02 0C 01 01 01 02 01 00 01 18",
		"01 66 00 00 00 80 00 01 18",
		// The body.
		"01 66 00 00 00 00 00",
		"01 66 00 00 00 00 01 00",
		"01 66 00 00 00 00 80 01 18",
		"01 66 00 00 00 00 01 12 01",
		"01 66 00 00 00 00 01 1E",
		"01 66 00 00 00 00 02 18 13 00",
		"01 66 00 00 00 00 82 01" + strings.Repeat(" 00", 512) + " 18",
	} {
		for _, tail := range tails() {
			refused(t, append(unhex(t, s), tail...))
		}
	}
}

// P7.1: bytes of more slots than there may be, though each part of them may be.
func TestP7_1DecodeOfTooMany(t *testing.T) {
	for n := 60; n <= 70; n++ {
		for _, s := range triples(n) {
			f := sized(s[0], s[1], s[2], n)
			b := bytesOf(t, f)
			if n > 64 {
				refused(t, b)
				continue
			}
			if got, e := function.Decode(vary.On(b)); !like(got, f) || e != api.OK {
				t.Errorf("% X: %v, error %d; want %v", b, got, e, f)
			}
		}
	}
}

// P7.1: no Reel, one that nobody made, and one behind its end have no function's bytes.
func TestP7_1DecodeOfNone(t *testing.T) {
	spent := vary.On(bytesOf(t, example()))
	if _, e := function.Decode(spent); e != api.OK {
		t.Fatal(e)
	}
	for _, r := range []*vary.Reel{nil, {}, vary.On(nil), spent} {
		if f, e := function.Decode(r); !nothing(f) || e != api.ErrFunction {
			t.Errorf("%v, error %d; want ErrFunction", f, e)
		}
	}
}
