package shape_test

import (
	"bytes"
	"slices"
	"testing"

	"backstay/api"
	"backstay/shape"
	"backstay/vary"
)

// tails are bytes that may stand behind.
func tails() [][]byte { return [][]byte{nil, {0}, {1}, {1, 0}, {0xFF}, {0x80, 0x05}} }

// P6.1: bytes, written out.
func TestP6_1EncodeWrittenOut(t *testing.T) {
	for _, c := range []struct{ s, b string }{
		{"I", "01 00"},
		{"R", "01 01"},
		{"F", "01 02"},
		{"IR", "02 04"},
		{"RI", "02 01"},
		{"IRF", "03 24"},
		{"RIFRI", "05 61 00"},
		{"RRRRI", "05 55 00"},
		{"FFFF", "04 AA"},
		{"FFFFF", "05 AA 02"},
		{"IIIR", "04 40"},
		{"IIIIIIIR", "08 00 40"},
		{"IRFIFRIR", "08 24 46"},
		{"FFFFFFFFFFFFFFF", "0F AA AA AA 2A"},
		{"FFFFFFFFFFFFFFFF", "10 AA AA AA AA"},
		{"RIIIFIIIRRIIFFII", "10 01 02 05 0A"},
	} {
		if b, e := shape.Encode(typed(c.s)); !bytes.Equal(b, unhex(t, c.b)) || e != api.OK {
			t.Errorf("%s: % X, error %d; want %s", c.s, b, e, c.b)
		}
	}
}

// P6.1: a shape's bytes; none, unless it may be.
func TestP6_1Encode(t *testing.T) {
	for _, s := range shapes() {
		if b, e := shape.Encode(s); !bytes.Equal(b, bytesOf(s)) || e != api.OK {
			t.Errorf("%v: % X, error %d; want % X", s, b, e, bytesOf(s))
		}
	}
	for _, s := range noShapes() {
		if b, e := shape.Encode(s); len(b) != 0 || e != api.ErrShape {
			t.Errorf("%v: % X, error %d; want ErrShape", s, b, e)
		}
	}
}

// P6.1: a shape is read wherever its bytes stand, whatever is behind, and the Reel's place is behind it.
func TestP6_1Decode(t *testing.T) {
	for _, s := range shapes() {
		for _, ahead := range []int{0, 1, 5} {
			for _, tail := range tails() {
				b := append(make([]byte, ahead), bytesOf(s)...)
				r := vary.On(append(b, tail...))
				if _, e := r.Raw(ahead); e != api.OK {
					t.Fatal(e)
				}
				if got, e := shape.Decode(r); !slices.Equal(got, s) || e != api.OK || r.At() != len(b) {
					t.Errorf("%v behind %d, ahead of % X: %v, error %d at %d", s, ahead, tail, got, e, r.At())
				}
				if rest, e := r.Raw(len(tail)); !bytes.Equal(rest, tail) || e != api.OK || r.End() != api.OK {
					t.Errorf("%v: behind it % X, error %d; want % X", s, rest, e, tail)
				}
			}
		}
	}
}

// P6.1: shapes one behind the other are read one by one.
func TestP6_1DecodeOneByOne(t *testing.T) {
	var b []byte
	for _, s := range shapes() {
		b = append(b, bytesOf(s)...)
	}
	r := vary.On(b)
	for _, s := range shapes() {
		if got, e := shape.Decode(r); !slices.Equal(got, s) || e != api.OK {
			t.Fatalf("%v: %v, error %d", s, got, e)
		}
	}
	if e := r.End(); e != api.OK {
		t.Error(e)
	}
}

// P6.1: bytes that are cut are ErrShape, wherever that is.
func TestP6_1DecodeOfCut(t *testing.T) {
	for _, s := range shapes() {
		b := bytesOf(s)
		for cut := range b {
			if got, e := shape.Decode(vary.On(b[:cut])); len(got) != 0 || e != api.ErrShape {
				t.Errorf("%d bytes of %v: %v, error %d; want ErrShape", cut, s, got, e)
			}
		}
	}
}

// P6.1: bytes that are no shape's, each with bytes behind it, too.
func TestP6_1DecodeOfWrong(t *testing.T) {
	for _, s := range []string{
		// No cell, or too many.
		"00",
		"11 00 00 00 00 00",
		"12 00 00 00 00 00",
		"40 00 00 00 00 00 00 00 00 00 00 00 00 00 00 00 00",
		"80 80 00",
		"FF FF FF FF FF FF FF FF FF",
		// More bytes than the number needs.
		"80 00",
		"80 01 00",
		"80 10 00 00 00 00",
		"FF 00 00 00 00 00 00 00 01 00",
		// A P.
		"01 03",
		"02 03",
		"02 0C",
		"03 30",
		"04 C0",
		"04 FF",
		"05 00 03",
		"08 00 C0",
		"10 00 00 00 C0",
		"10 03 00 00 00",
		// Bits behind the last one.
		"01 04",
		"01 08",
		"01 10",
		"01 20",
		"01 40",
		"01 80",
		"01 FC",
		"02 10",
		"02 80",
		"03 40",
		"03 80",
		"03 C0",
		"05 00 04",
		"05 00 40",
		"06 AA 1A",
		"07 00 40",
		"09 00 00 04",
		"0F 00 00 00 40",
		"0F AA AA AA AA",
	} {
		for _, tail := range tails() {
			b := append(unhex(t, s), tail...)
			if got, e := shape.Decode(vary.On(b)); len(got) != 0 || e != api.ErrShape {
				t.Errorf("% X: %v, error %d; want ErrShape", b, got, e)
			}
		}
	}
}

// P6.1: no Reel, one that nobody made, and one behind its end have no shape's bytes.
func TestP6_1DecodeOfNone(t *testing.T) {
	spent := vary.On([]byte{1, 0})
	if _, e := shape.Decode(spent); e != api.OK {
		t.Fatal(e)
	}
	for _, r := range []*vary.Reel{nil, {}, vary.On(nil), spent} {
		if got, e := shape.Decode(r); len(got) != 0 || e != api.ErrShape {
			t.Errorf("%v, error %d; want ErrShape", got, e)
		}
	}
}

// P6.3: signatures' bytes, written out.
func TestP6_3EncodeSignatureWrittenOut(t *testing.T) {
	for _, c := range []struct{ args, results, b string }{
		{"", "", "00 00"},
		{"I", "", "01 00 00"},
		{"", "I", "00 01 00"},
		{"P", "", "01 03 00"},
		{"P", "F", "01 03 01 02"},
		{"IP", "R", "02 0C 01 01"},
		{"PPPP", "", "04 FF 00"},
		{"PPPPP", "FFFFF", "05 FF 03 05 AA 02"},
		{"PII", "IR", "03 03 02 04"},
		{"", "IRFI", "00 04 24"},
		{"IRFP", "IRFIF", "04 E4 05 24 02"},
	} {
		if b, e := shape.EncodeSignature(sig(c.args, c.results)); !bytes.Equal(b, unhex(t, c.b)) || e != api.OK {
			t.Errorf("%s>%s: % X, error %d; want %s", c.args, c.results, b, e, c.b)
		}
	}
	whole := append(unhex(t, "40"), bytes.Repeat([]byte{0xFF}, 16)...)
	if b, e := shape.EncodeSignature(api.Signature{Args: slices.Repeat([]int{4}, 64)}); !bytes.Equal(b, append(whole, 0)) || e != api.OK {
		t.Errorf("of 64 arguments: % X, error %d", b, e)
	}
	whole = append(unhex(t, "00 40"), bytes.Repeat([]byte{0x55}, 16)...)
	if b, e := shape.EncodeSignature(api.Signature{Results: slices.Repeat([]int{2}, 64)}); !bytes.Equal(b, whole) || e != api.OK {
		t.Errorf("of 64 results: % X, error %d", b, e)
	}
}

// P6.3: a signature's bytes; none, unless it may be.
func TestP6_3EncodeSignature(t *testing.T) {
	for _, g := range signatures() {
		if b, e := shape.EncodeSignature(g); !bytes.Equal(b, signed(g)) || e != api.OK {
			t.Errorf("%v: % X, error %d; want % X", g, b, e, signed(g))
		}
	}
	for _, g := range noSignatures() {
		if b, e := shape.EncodeSignature(g); len(b) != 0 || e != api.ErrSignature {
			t.Errorf("%v: % X, error %d; want ErrSignature", g, b, e)
		}
	}
}

// P6.3: a signature is read wherever its bytes stand, whatever is behind, and the Reel's place is behind it.
func TestP6_3DecodeSignature(t *testing.T) {
	for _, g := range signatures() {
		for _, ahead := range []int{0, 3} {
			for _, tail := range tails() {
				b := append(make([]byte, ahead), signed(g)...)
				r := vary.On(append(b, tail...))
				if _, e := r.Raw(ahead); e != api.OK {
					t.Fatal(e)
				}
				if got, e := shape.DecodeSignature(r); !like(got, g) || e != api.OK || r.At() != len(b) {
					t.Errorf("%v behind %d, ahead of % X: %v, error %d at %d", g, ahead, tail, got, e, r.At())
				}
				if rest, e := r.Raw(len(tail)); !bytes.Equal(rest, tail) || e != api.OK || r.End() != api.OK {
					t.Errorf("%v: behind it % X, error %d; want % X", g, rest, e, tail)
				}
			}
		}
	}
}

// P6.3: signatures one behind the other, and shapes between, are read one by one.
func TestP6_3DecodeSignatureOneByOne(t *testing.T) {
	var b []byte
	for _, g := range signatures() {
		b = append(append(b, signed(g)...), 3, 0x24)
	}
	r := vary.On(b)
	for _, g := range signatures() {
		if got, e := shape.DecodeSignature(r); !like(got, g) || e != api.OK {
			t.Fatalf("%v: %v, error %d", g, got, e)
		}
		if s, e := shape.Decode(r); !slices.Equal(s, typed("IRF")) || e != api.OK {
			t.Fatalf("behind %v: %v, error %d", g, s, e)
		}
	}
	if e := r.End(); e != api.OK {
		t.Error(e)
	}
}

// P6.3: bytes that are cut are ErrSignature, wherever that is.
func TestP6_3DecodeSignatureOfCut(t *testing.T) {
	for _, g := range signatures() {
		b := signed(g)
		for cut := range b {
			if got, e := shape.DecodeSignature(vary.On(b[:cut])); !nothing(got) || e != api.ErrSignature {
				t.Errorf("%d bytes of %v: %v, error %d; want ErrSignature", cut, g, got, e)
			}
		}
	}
}

// P6.3: bytes that are no signature's, each with bytes behind it, too.
func TestP6_3DecodeSignatureOfWrong(t *testing.T) {
	zeros := func(n int) []byte { return make([]byte, n) }
	wrong := [][]byte{
		// Too many together, or of one kind.
		append([]byte{65}, zeros(18)...),
		append([]byte{0, 65}, zeros(17)...),
		slices.Concat([]byte{64}, zeros(16), []byte{1, 0}),
		slices.Concat([]byte{1, 0, 64}, zeros(16)),
		slices.Concat([]byte{32}, zeros(8), []byte{33}, zeros(9)),
		slices.Concat([]byte{33}, zeros(9), []byte{32}, zeros(8)),
		slices.Concat([]byte{64}, zeros(16), []byte{64}, zeros(16)),
		append([]byte{0x80, 0x80}, zeros(33)...),
		append([]byte{0, 0x80, 0x80}, zeros(32)...),
	}
	for _, s := range []string{
		"FF FF FF FF FF FF FF FF FF",
		"00 FF FF FF FF FF FF FF FF FF",
		// More bytes than a number needs.
		"80 00 00",
		"00 80 00",
		"80 01 00 00",
		"01 00 80 01 00",
		"FF 00 00 00 00 00 00 00 01 00 00",
		// A P among the results.
		"00 01 03",
		"00 02 03",
		"00 02 0C",
		"00 04 C0",
		"00 05 00 03",
		"01 03 01 03",
		// Bits behind the last one, on either side.
		"01 04 00",
		"01 40 00",
		"01 80 00",
		"02 10 00",
		"03 40 00",
		"05 00 04 00",
		"00 01 04",
		"00 01 80",
		"00 02 20",
		"00 03 C0",
		"00 05 00 04",
		"01 03 01 10",
	} {
		wrong = append(wrong, unhex(t, s))
	}
	for _, b := range wrong {
		for _, tail := range tails() {
			b := append(slices.Clone(b), tail...)
			if got, e := shape.DecodeSignature(vary.On(b)); !nothing(got) || e != api.ErrSignature {
				t.Errorf("% X: %v, error %d; want ErrSignature", b, got, e)
			}
		}
	}
}

// P6.3: no Reel, one that nobody made, and one behind its end have no signature's bytes.
func TestP6_3DecodeSignatureOfNone(t *testing.T) {
	spent := vary.On([]byte{0, 0})
	if _, e := shape.DecodeSignature(spent); e != api.OK {
		t.Fatal(e)
	}
	for _, r := range []*vary.Reel{nil, {}, vary.On(nil), spent} {
		if got, e := shape.DecodeSignature(r); !nothing(got) || e != api.ErrSignature {
			t.Errorf("%v, error %d; want ErrSignature", got, e)
		}
	}
}

// The chapter's examples.
func TestP6_1ExampleEncode(t *testing.T) {
	if b, e := shape.Encode(api.Shape{1, 2, 3}); !bytes.Equal(b, []byte{0x03, 0x24}) || e != api.OK {
		t.Errorf("IRF: % X, error %d", b, e)
	}
	if b, e := shape.Encode(api.Shape{2, 2, 2, 2, 1}); !bytes.Equal(b, []byte{0x05, 0x55, 0x00}) || e != api.OK {
		t.Errorf("RRRRI: % X, error %d", b, e)
	}
}

func TestP6_1ExampleDecode(t *testing.T) {
	if s, e := shape.Decode(vary.On([]byte{0x01, 0x04})); len(s) != 0 || e != api.ErrShape {
		t.Errorf("%v, error %d; want ErrShape", s, e)
	}
}
