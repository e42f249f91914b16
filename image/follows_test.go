package image_test

import (
	"bytes"
	"slices"
	"testing"

	"backstay/api"
	"backstay/image"
)

// spoil writes over a list, and over all memory behind it.
func spoil[T any](l []T, with T) {
	l = l[:cap(l)]
	for i := range l {
		l[i] = with
	}
}

// spoilers are functions that each write over one of an image's lists; those that write over lists of lists come last.
func spoilers(p api.Image) []func() {
	var all []func()
	for _, s := range p.Shapes {
		all = append(all, func() { spoil(s, -9) })
	}
	for _, f := range p.Functions {
		all = append(all,
			func() { spoil(f.Sig.Args, -9) },
			func() { spoil(f.Sig.Results, -9) },
			func() { spoil(f.Locals, -9) },
			func() { spoil(f.Body, api.Instr{Op: -9, A: -9, B: -9}) })
	}
	return append(all,
		func() { spoil(p.Shapes, api.Shape{-9}) },
		func() { spoil(p.Functions, api.Function{Name: "spoilt"}) })
}

// spoilAll writes over all of an image's lists.
func spoilAll(p api.Image) {
	for _, one := range spoilers(p) {
		one()
	}
}

// whole is an image with all memory behind its lists.
func whole(p api.Image) api.Image {
	all := func(l []int) []int { return l[:cap(l)] }
	var q api.Image
	for _, s := range p.Shapes[:cap(p.Shapes)] {
		q.Shapes = append(q.Shapes, all(s))
	}
	for _, f := range p.Functions[:cap(p.Functions)] {
		q.Functions = append(q.Functions, api.Function{Name: f.Name, Sig: api.Signature{Args: all(f.Sig.Args), Results: all(f.Sig.Results)}, Locals: all(f.Locals), Body: f.Body[:cap(f.Body)]})
	}
	return q
}

// mixed are images that may be, and such as may not be, not all of them.
func mixed() []api.Image {
	all := append(small(), greatest())
	for i, p := range noImages() {
		if i%7 == 0 && len(p.Functions) < 200 {
			all = append(all, p)
		}
	}
	return all
}

// P8.3: no call changes the image that it is handed, nor what stands behind its lists in their memory.
func TestP8_3ImagesOnlyRead(t *testing.T) {
	for _, one := range mixed() {
		p := again(one)
		kept := again(whole(p))
		image.Check(p)
		b, _ := image.Encode(p)
		spoil(b, 0xEE)
		image.Find(p, "f0")
		image.Find(p, "none")
		for _, g := range image.Context(p).Sigs {
			spoil(g.Args, -9)
			spoil(g.Results, -9)
		}
		spoil(image.Context(p).Sigs, api.Signature{Args: []int{-9}})
		image.Same(p, one)
		image.Same(one, p)
		image.Same(p, p)
		spoilAll(image.Copy(p))
		if !like(whole(p), kept) || !like(p, one) {
			t.Fatalf("%v: now %v", one, whole(p))
		}
	}
}

// P8.3: what was answered of an image stays, whatever becomes of that.
func TestP8_3AnswersAreNew(t *testing.T) {
	for _, one := range mixed() {
		p := again(one)
		b, e := image.Encode(p)
		c, q := image.Context(p), image.Copy(p)
		spoilAll(p)
		if !like(q, one) {
			t.Errorf("copied %v; want %v", q, one)
		}
		if e == api.OK && !bytes.Equal(b, bytesOf(t, one)) {
			t.Errorf("%v: % X", one, b)
		}
		for i, g := range c.Sigs {
			want := one.Functions[i].Sig
			if !slices.Equal(g.Args, want.Args) || !slices.Equal(g.Results, want.Results) {
				t.Errorf("%v: signature %d is now %v", one, i, g)
			}
		}
	}
}

// P8.3: no two lists of one copy, or of one image that was read, share any memory, nor do two answers.
func TestP8_3ListsShareNothing(t *testing.T) {
	for _, p := range small() {
		b := bytesOf(t, p)
		for _, made := range []func() api.Image{
			func() api.Image { return image.Copy(p) },
			func() api.Image {
				q, _ := image.Decode(b)
				return q
			},
		} {
			other := made()
			for i := range spoilers(p) {
				one, want := made(), again(p)
				spoilers(one)[i]()
				spoilers(want)[i]()
				if !like(one, want) {
					t.Fatalf("%v, list %d: %v; want %v", p, i, one, want)
				}
			}
			if !like(other, p) {
				t.Fatalf("%v: now %v", p, other)
			}
		}
	}
}

// P8.3: no two lists of one context share any memory, nor do two contexts.
func TestP8_3ContextsShareNothing(t *testing.T) {
	for _, p := range mixed() {
		other := image.Context(p)
		for i := range p.Functions {
			for half := range 2 {
				c := image.Context(p)
				if half == 0 {
					spoil(c.Sigs[i].Args, -9)
				} else {
					spoil(c.Sigs[i].Results, -9)
				}
				for j, f := range p.Functions {
					if (i != j || half != 0) && !slices.Equal(c.Sigs[j].Args, f.Sig.Args) || (i != j || half != 1) && !slices.Equal(c.Sigs[j].Results, f.Sig.Results) ||
						!slices.Equal(other.Sigs[j].Args, f.Sig.Args) || !slices.Equal(other.Sigs[j].Results, f.Sig.Results) {
						t.Fatalf("%v, list %d of %d: %v, %v", p, half, i, c, other)
					}
				}
			}
		}
	}
}

// P8.3: of bytes nothing is changed, nor what stands behind them, and what was read stays, whatever becomes of them.
func TestP8_3BytesOnlyRead(t *testing.T) {
	for _, p := range append(small(), greatest()) {
		b := roomy(bytesOf(t, p))
		kept := slices.Clone(b[:cap(b)])
		got, e := image.Decode(b)
		n := image.Sum(b, b[5:], nil)
		image.Decode(b[:len(b)-1])
		image.Decode(b[1:])
		if e != api.OK || n != sumOf(slices.Concat(b, b[5:])) || !bytes.Equal(b[:cap(b)], kept) {
			t.Fatalf("%v: error %d, % X", p, e, b[:cap(b)])
		}
		spoil(b, 0xEE)
		if !like(got, p) {
			t.Errorf("%v; want %v", got, p)
		}
	}
}

// P8.3: parts that are handed in as one list stay what they were.
func TestP8_3PartsOnlyRead(t *testing.T) {
	parts := roomy([][]byte{roomy([]byte("Wiki")), nil, {}, roomy([]byte("pedia"))})
	if got := image.Sum(parts...); got != 0x11E60398 {
		t.Errorf("%08X", got)
	}
	want := [][]byte{[]byte("Wiki\x00\x00\x00"), nil, nil, []byte("pedia\x00\x00\x00"), nil, nil, nil}
	for i, one := range parts[:cap(parts)] {
		if !bytes.Equal(one[:cap(one)], want[i]) {
			t.Errorf("part %d is now % X", i, one[:cap(one)])
		}
	}
}

// P8.4: an image is read from its bytes as it was.
func TestP8_4RoundTrip(t *testing.T) {
	for _, p := range images() {
		b, e := image.Encode(p)
		if e != api.OK {
			t.Fatalf("%v: error %d", p, e)
		}
		if q, e := image.Decode(b); !image.Same(p, q) || !like(p, q) || e != api.OK {
			t.Errorf("%v: %v, error %d", p, q, e)
		}
	}
}

// justThese fails, unless what is read of bytes with a right sum, if anything, may be, and has just these.
func justThese(t *testing.T, inside []byte) (p api.Image, read bool) {
	t.Helper()
	b := closed(inside)
	p, e := image.Decode(b)
	if e != api.OK {
		if e != api.ErrImage || !nothing(p) {
			t.Fatalf("% X: %v, error %d", b, p, e)
		}
		return p, false
	}
	if again, e := image.Encode(p); len(p.Functions) == 0 || image.Check(p) != api.OK || !bytes.Equal(again, b) || e != api.OK {
		t.Fatalf("% X: %v, error %d, % X", b, p, e, again)
	}
	return p, true
}

// P8.4: bytes of which one is another, or goes, or comes in between, with a right sum: what is read has just these, and is another image.
func TestP8_4OtherBytes(t *testing.T) {
	read := 0
	for _, p := range small() {
		inside := insideOf(t, p)
		for at := range inside {
			if q, ok := justThese(t, slices.Delete(slices.Clone(inside), at, at+1)); ok && image.Same(p, q) {
				t.Fatalf("% X without byte %d: the same image", inside, at)
			}
			for x := range 256 {
				other := slices.Clone(inside)
				other[at] = byte(x)
				q, ok := justThese(t, other)
				if ok {
					read++
				}
				if ok && image.Same(p, q) != (inside[at] == byte(x)) {
					t.Fatalf("% X and % X: both %v", inside, other, p)
				}
				justThese(t, slices.Insert(slices.Clone(inside), at, byte(x)))
			}
		}
	}
	if read < 1000 {
		t.Errorf("only %d were read", read)
	}
}

// P8.4: whatever bytes there are, put together of such as often stand there.
func TestP8_4AnyBytes(t *testing.T) {
	pieces := [][]byte{{0}, {0}, {1}, {2}, {3}, {0, 1}, {0, 2}, {1, 1, 0, 1}, {1, 'f'}, {1, 'g'}, {2, 'Z', '9'}, {0, 0, 0, 0}, {0, 0, 0, 0, 1, 0x18}, {1, 'f', 0, 0, 0, 0, 1, 0x18}, {1, 2}, {1, 0x18}, {0x12, 0}, {0x18}, {0x80}}
	seed, read := uint64(1), 0
	for n := range 200000 {
		var b []byte
		for range 2 + n%5 {
			seed = seed*6364136223846793005 + 1442695040888963407
			b = append(b, pieces[seed>>33%uint64(len(pieces))]...)
		}
		if _, ok := justThese(t, b); ok {
			read++
		}
	}
	if read < 100 {
		t.Errorf("only %d were read", read)
	}
}

// P8.4: an image's bytes of which one was changed are no image's, whichever, and however.
func TestP8_4OneChanged(t *testing.T) {
	for _, p := range small() {
		b := bytesOf(t, p)
		for at := range b {
			want := api.ErrSum
			if at < len(api.Magic) {
				want = api.ErrMagic
			}
			for x := range 255 {
				other := slices.Clone(b)
				other[at] ^= byte(1 + x)
				refused(t, other, want)
			}
		}
	}
	// Of a great one, one bit here and there.
	b := bytesOf(t, greatest())
	for at := 5; at < len(b); at += 97 {
		b[at] ^= 1 << (at % 8)
		refused(t, b, api.ErrSum)
		b[at] ^= 1 << (at % 8)
	}
	if _, e := image.Decode(b); e != api.OK {
		t.Errorf("error %d", e)
	}
}

// no fails, unless bytes are no image's.
func no(t *testing.T, b []byte) {
	t.Helper()
	if p, e := image.Decode(b); !nothing(p) || e != api.ErrMagic && e != api.ErrSum && e != api.ErrImage {
		t.Errorf("% X: %v, error %d", b, p, e)
	}
}

// P8.4: an image's bytes that were cut, anywhere, or with any bytes behind, are no image's.
func TestP8_4CutOrMore(t *testing.T) {
	for _, p := range small() {
		b := bytesOf(t, p)
		for cut := range b {
			no(t, b[:cut])
			no(t, b[cut+1:])
			if cut < len(api.Magic) {
				refused(t, b[:cut], api.ErrMagic)
			}
		}
		for x := range 256 {
			no(t, append(slices.Clone(b), byte(x)))
			no(t, append(slices.Clone(b), byte(x), byte(3*x)))
		}
		for _, q := range small() {
			no(t, slices.Concat(b, bytesOf(t, q)))
			no(t, slices.Concat(b, insideOf(t, q)))
			no(t, summed(slices.Concat(b, insideOf(t, q))))
			no(t, summed(slices.Concat(b[:len(b)-4], insideOf(t, q))))
		}
		for n := range 20 {
			no(t, append(slices.Clone(b), make([]byte, n+1)...))
			no(t, append(slices.Clone(b), b[len(b)-min(n+1, len(b)):]...))
		}
		refused(t, summed(b), api.ErrImage)
	}
}
