package shape_test

import (
	"bytes"
	"slices"
	"testing"

	"backstay/api"
	"backstay/shape"
	"backstay/vary"
)

// spoil writes over a list, and over all memory behind it.
func spoil(l []int) {
	l = l[:cap(l)]
	for i := range l {
		l[i] = -9
	}
}

// roomy is a list with memory behind it, and that memory.
func roomy(l []int) (short, whole []int) {
	whole = append(slices.Clone(l), 7, 7, 7)
	return whole[:len(l)], whole
}

// P6.4: no call changes the shape that it is handed, nor what stands behind that in its memory.
func TestP6_4ShapesOnlyRead(t *testing.T) {
	for _, l := range append(shapes(), noShapes()...) {
		s, whole := roomy(l)
		kept := slices.Clone(whole)
		shape.Check(s)
		shape.Encode(s)
		shape.Show(s)
		for _, i := range []int{-1, 0, len(s) - 1, len(s)} {
			shape.Cell(s, i)
		}
		if !slices.Equal(whole, kept) {
			t.Fatalf("%v: now %v", kept, whole)
		}
	}
}

// P6.4: nor the signatures.
func TestP6_4SignaturesOnlyRead(t *testing.T) {
	for _, g := range append(signatures(), noSignatures()...) {
		args, wholeArgs := roomy(g.Args)
		results, wholeResults := roomy(g.Results)
		keptArgs, keptResults := slices.Clone(wholeArgs), slices.Clone(wholeResults)
		h := api.Signature{Args: args, Results: results}
		shape.CheckSignature(h)
		shape.EncodeSignature(h)
		shape.ShowSignature(h)
		shape.Same(h, g)
		shape.Same(g, h)
		shape.Same(h, h)
		if !slices.Equal(wholeArgs, keptArgs) || !slices.Equal(wholeResults, keptResults) {
			t.Fatalf("%v: now %v, %v", g, wholeArgs, wholeResults)
		}
	}
}

// P6.4: of a Reel's bytes nothing is changed, and what was read stays, whatever becomes of them.
func TestP6_4BytesOnlyRead(t *testing.T) {
	for _, s := range shapes() {
		b := append(bytesOf(s), 1, 0)
		kept := slices.Clone(b)
		got, e := shape.Decode(vary.On(b))
		if e != api.OK || !bytes.Equal(b, kept) {
			t.Fatalf("%v: error %d, % X", s, e, b)
		}
		clear(b)
		if !slices.Equal(got, s) {
			t.Errorf("%v; want %v", got, s)
		}
		spoil(got)
		if again, e := shape.Decode(vary.On(kept)); !slices.Equal(again, s) || e != api.OK {
			t.Errorf("%v, error %d; want %v", again, e, s)
		}
	}
	for _, g := range signatures() {
		b := append(signed(g), 1, 0)
		kept := slices.Clone(b)
		got, e := shape.DecodeSignature(vary.On(b))
		if e != api.OK || !bytes.Equal(b, kept) {
			t.Fatalf("%v: error %d, % X", g, e, b)
		}
		clear(b)
		if !like(got, g) {
			t.Errorf("%v; want %v", got, g)
		}
	}
}

// P6.4: a Reel from which something was read reads on as it would have.
func TestP6_4ReelReadsOn(t *testing.T) {
	r := vary.On([]byte{3, 0x24, 2, 0x0C, 1, 1, 3, 0x24, 99})
	s, _ := shape.Decode(r)
	spoil(s)
	g, _ := shape.DecodeSignature(r)
	spoil(g.Args)
	spoil(g.Results)
	if s, e := shape.Decode(r); !slices.Equal(s, typed("IRF")) || e != api.OK {
		t.Errorf("%v, error %d", s, e)
	}
	if n, e := r.Number(99); n != 99 || e != api.OK || r.End() != api.OK {
		t.Errorf("%d, error %d", n, e)
	}
}

// P6.4: bytes are new memory.
func TestP6_4BytesAreNew(t *testing.T) {
	for _, l := range shapes() {
		s := slices.Clone(l)
		b, _ := shape.Encode(s)
		other, _ := shape.Encode(s)
		clear(other[:cap(other)])
		spoil(s)
		if !bytes.Equal(b, bytesOf(l)) {
			t.Errorf("%v: % X", l, b)
		}
		if again, e := shape.Encode(l); !bytes.Equal(again, bytesOf(l)) || e != api.OK {
			t.Errorf("%v: % X, error %d", l, again, e)
		}
	}
	for _, g := range signatures() {
		h := api.Signature{Args: slices.Clone(g.Args), Results: slices.Clone(g.Results)}
		b, _ := shape.EncodeSignature(h)
		other, _ := shape.EncodeSignature(h)
		clear(other[:cap(other)])
		if !like(g, h) {
			t.Errorf("%v: now %v", g, h)
		}
		spoil(h.Args)
		spoil(h.Results)
		if !bytes.Equal(b, signed(g)) {
			t.Errorf("%v: % X", g, b)
		}
		if again, e := shape.EncodeSignature(g); !bytes.Equal(again, signed(g)) || e != api.OK {
			t.Errorf("%v: % X, error %d", g, again, e)
		}
	}
}

// P6.4: what is read of texts is new memory.
func TestP6_4ReadAreNew(t *testing.T) {
	for _, s := range shapes() {
		one, _ := shape.Read(letters(s))
		two, _ := shape.Read(letters(s))
		spoil(one)
		three, e := shape.Read(letters(s))
		if !slices.Equal(two, s) || !slices.Equal(three, s) || e != api.OK {
			t.Errorf("%v: %v, %v, error %d", s, two, three, e)
		}
	}
}

// P6.4: arguments and results that were read share nothing, neither with each other nor with what another call answered.
func TestP6_4SignaturesAreNew(t *testing.T) {
	for _, g := range signatures() {
		text := letters(g.Args) + ">" + letters(g.Results)
		for _, read := range []func() (api.Signature, api.Errno){
			func() (api.Signature, api.Errno) { return shape.ReadSignature(text) },
			func() (api.Signature, api.Errno) { return shape.DecodeSignature(vary.On(signed(g))) },
		} {
			one, _ := read()
			two, _ := read()
			spoil(one.Args)
			if !slices.Equal(one.Results, g.Results) {
				t.Errorf("%s: results are %v", text, one.Results)
			}
			other, _ := read()
			spoil(other.Results)
			if !slices.Equal(other.Args, g.Args) {
				t.Errorf("%s: arguments are %v", text, other.Args)
			}
			if three, e := read(); !like(two, g) || !like(three, g) || e != api.OK {
				t.Errorf("%s: %v, %v, error %d", text, two, three, e)
			}
		}
	}
}

// P6.5: shapes are read from their bytes, and from their texts, as they were.
func TestP6_5Shapes(t *testing.T) {
	for _, s := range shapes() {
		b, e := shape.Encode(s)
		if e != api.OK {
			t.Fatalf("%v: error %d", s, e)
		}
		r := vary.On(b)
		if got, e := shape.Decode(r); !slices.Equal(got, s) || e != api.OK || r.End() != api.OK {
			t.Errorf("%v: %v, error %d at %d", s, got, e, r.At())
		}
		if got, e := shape.Read(shape.Show(s)); !slices.Equal(got, s) || e != api.OK {
			t.Errorf("%v: %v, error %d", s, got, e)
		}
	}
}

// P6.5: so are signatures.
func TestP6_5Signatures(t *testing.T) {
	for _, g := range signatures() {
		b, e := shape.EncodeSignature(g)
		if e != api.OK {
			t.Fatalf("%v: error %d", g, e)
		}
		r := vary.On(b)
		if got, e := shape.DecodeSignature(r); !shape.Same(got, g) || e != api.OK || r.End() != api.OK {
			t.Errorf("%v: %v, error %d at %d", g, got, e, r.At())
		}
		if got, e := shape.ReadSignature(shape.ShowSignature(g)); !shape.Same(got, g) || e != api.OK {
			t.Errorf("%v: %v, error %d", g, got, e)
		}
	}
}

// P6.5: whatever three bytes there are, a shape that is read of them may be, and has just these.
func TestP6_5ShapesOfAny(t *testing.T) {
	read := 0
	for n := range 1 << 24 {
		b := []byte{byte(n >> 16), byte(n >> 8), byte(n)}
		if b[0] > 20 && b[0]%16 != 0 {
			continue
		}
		r := vary.On(b)
		s, e := shape.Decode(r)
		switch {
		case e == api.OK:
			read++
			if again, f := shape.Encode(s); !mayShape(s) || !bytes.Equal(again, b[:r.At()]) || f != api.OK {
				t.Fatalf("% X: %v, error %d, % X", b, s, f, again)
			}
		case e != api.ErrShape || len(s) != 0:
			t.Fatalf("% X: %v, error %d", b, s, e)
		}
	}
	// Of one to four cells, with any byte behind; of five to eight.
	if want := (3+9+27+81)*256 + 81*(3+9+27+81); read != want {
		t.Errorf("%d were read; want %d", read, want)
	}
}

// P6.5: whatever four bytes there are out of some, a signature that is read of them may be, and has just these.
func TestP6_5SignaturesOfAny(t *testing.T) {
	var some []byte
	for x := range 256 {
		if x < 20 || x%8 == 0 || x%16 == 15 {
			some = append(some, byte(x))
		}
	}
	for first := range byte(6) {
		for _, x := range some {
			for _, y := range some {
				for _, z := range some {
					b := []byte{first, x, y, z}
					r := vary.On(b)
					g, e := shape.DecodeSignature(r)
					if e == api.OK {
						if again, f := shape.EncodeSignature(g); !maySignature(g) || !bytes.Equal(again, b[:r.At()]) || f != api.OK {
							t.Fatalf("% X: %v, error %d, % X", b, g, f, again)
						}
					} else if e != api.ErrSignature || !nothing(g) {
						t.Fatalf("% X: %v, error %d", b, g, e)
					}
				}
			}
		}
	}
}

// P6.5: one bit of a shape's bytes, or of a signature's, turned: what is read has just those bytes, or nothing is.
func TestP6_5TurnedBits(t *testing.T) {
	for _, g := range signatures() {
		b := signed(g)
		for bit := range 8 * len(b) {
			turned := slices.Clone(b)
			turned[bit/8] ^= 1 << (bit % 8)
			r := vary.On(turned)
			if h, e := shape.DecodeSignature(r); e == api.OK && (like(h, g) || !bytes.Equal(signed(h), turned[:r.At()])) {
				t.Errorf("% X, of %v: %v", turned, g, h)
			}
		}
	}
	for _, s := range shapes() {
		b := bytesOf(s)
		for bit := range 8 * len(b) {
			turned := slices.Clone(b)
			turned[bit/8] ^= 1 << (bit % 8)
			r := vary.On(turned)
			if got, e := shape.Decode(r); e == api.OK && (slices.Equal(got, s) || !bytes.Equal(bytesOf(got), turned[:r.At()])) {
				t.Errorf("% X, of %v: %v", turned, s, got)
			}
		}
	}
}
