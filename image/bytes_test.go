package image_test

import (
	"bytes"
	"hash/adler32"
	"math/big"
	"slices"
	"strings"
	"testing"

	"backstay/api"
	"backstay/image"
)

// P8.1: an image's bytes; none, unless it may be.
func TestP8_1Encode(t *testing.T) {
	for i, p := range images() {
		if b, e := image.Encode(p); !bytes.Equal(b, bytesOf(t, p)) || e != api.OK {
			t.Errorf("%d, %v: % X, error %d; want % X", i, p, b, e, bytesOf(t, p))
		}
	}
	for i, p := range noImages() {
		if b, e := image.Encode(p); len(b) != 0 || e != api.ErrImage {
			t.Errorf("%d, %v: % X, error %d; want ErrImage", i, p, b, e)
		}
	}
}

// P8.1: bytes and their sum, written out.
func TestP8_1WrittenOut(t *testing.T) {
	for _, c := range []struct {
		p api.Image
		b string
	}{
		{least(), "62 6B 73 74 01 00 01 01 66 00 00 00 00 01 18 19 EE 02 37"},
		{api.Image{Shapes: []api.Shape{typed("IRF")}, Functions: least().Functions}, "62 6B 73 74 01 01 03 24 01 01 66 00 00 00 00 01 18 1E EF 02 5F"},
		{
			example(),
			"62 6B 73 74 01 02 03 24 05 55 00 03 " +
				"04 6D 61 69 6E 00 01 00 00 00 02 14 01 18 01 66 02 0C 01 01 01 02 00 01 18 01 46 05 FF 00 02 06 03 1C 00 01 12 00 C3 28 06 2D",
		},
	} {
		if b, e := image.Encode(c.p); !bytes.Equal(b, unhex(t, c.b)) || e != api.OK {
			t.Errorf("%v: % X, error %d; want %s", c.p, b, e, c.b)
		}
		if p, e := image.Decode(unhex(t, c.b)); !like(p, c.p) || e != api.OK {
			t.Errorf("%s: %v, error %d; want %v", c.b, p, e, c.p)
		}
	}
}

// P8.1: an image is read from its bytes.
func TestP8_1Decode(t *testing.T) {
	for i, p := range images() {
		if got, e := image.Decode(bytesOf(t, p)); !like(got, p) || e != api.OK {
			t.Errorf("%d, %v: %v, error %d", i, p, got, e)
		}
	}
}

// refused fails, unless bytes are answered by an error, and by nothing else.
func refused(t *testing.T, b []byte, want api.Errno) {
	t.Helper()
	if p, e := image.Decode(b); !nothing(p) || e != want {
		t.Errorf("% X: %v, error %d; want %d", b, p, e, want)
	}
}

// P8.1: bytes that do not begin with Magic, whatever is behind, a right sum or an image's bytes, too.
func TestP8_1DecodeOfNoMagic(t *testing.T) {
	inside := insideOf(t, example())
	for _, s := range []string{
		"", "b", "bk", "bks", "bkst",
		"bkst\x00", "bkst\x02", "bkst\x81", "bkst\xFF", "bkst1", "bkst\n",
		"Bkst\x01", "bKst\x01", "bkSt\x01", "bksT\x01", "BKST\x01",
		"kbst\x01", "kst\x01b", "bkst", "kst\x01", "\x01bkst", "\x01tskb",
		" bkst\x01", "\x00bkst\x01", "bkst\x00\x01", "b\x00kst\x01", "bbkst\x01",
	} {
		refused(t, []byte(s), api.ErrMagic)
		refused(t, summed([]byte(s)), api.ErrMagic)
		refused(t, append([]byte(s), inside...), api.ErrMagic)
		refused(t, summed(append([]byte(s), inside...)), api.ErrMagic)
	}
	b := bytesOf(t, example())
	for at := range 5 {
		for x := range 255 {
			other := slices.Clone(b)
			other[at] ^= byte(1 + x)
			refused(t, other, api.ErrMagic)
			refused(t, summed(other[:len(b)-4]), api.ErrMagic)
		}
	}
	refused(t, nil, api.ErrMagic)
	refused(t, make([]byte, 100), api.ErrMagic)
	refused(t, b[5:], api.ErrMagic)
}

// P8.1: behind Magic fewer than four bytes are no sum, whatever they are.
func TestP8_1DecodeOfNoSum(t *testing.T) {
	for n := range 4 {
		for _, x := range []byte{0, 1, 2, 0x18, 0x62, 0x7F, 0x80, 0xFF} {
			refused(t, append([]byte(api.Magic), bytes.Repeat([]byte{x}, n)...), api.ErrSum)
			refused(t, summed([]byte(api.Magic))[:5+n], api.ErrSum)
			// The sum would have to be Magic's own end.
			refused(t, append([]byte(api.Magic), summed([]byte("bkst"))[4:4+n]...), api.ErrSum)
		}
	}
	if p, e := image.Decode(summed([]byte(api.Magic))); !nothing(p) || e != api.ErrImage {
		t.Errorf("Magic and its sum: %v, error %d; want ErrImage", p, e)
	}
}

// P8.1: a sum that is another one.
func TestP8_1DecodeOfOtherSum(t *testing.T) {
	for _, p := range small() {
		b := bytesOf(t, p)
		inside := b[:len(b)-4]
		n := adler32.Checksum(inside)
		for _, other := range []uint32{
			0, 1, n ^ 1, n + 1, n - 1, n ^ 1<<31, n ^ 0xFFFFFFFF, n<<16 | n>>16, n<<24 | n<<8&0xFF0000 | n>>8&0xFF00 | n>>24, n & 0xFFFF, n >> 16,
			n + 65521, n + 65521<<16, adler32.Checksum(b[5 : len(b)-4]), adler32.Checksum(b), adler32.Checksum(b[:len(b)-5]),
		} {
			if other != n {
				refused(t, append(slices.Clone(inside), byte(other>>24), byte(other>>16), byte(other>>8), byte(other)), api.ErrSum)
			}
		}
		// The sum stands last, not next to last; and it is not left out.
		for x := range 256 {
			refused(t, append(slices.Clone(b), byte(x)), api.ErrSum)
		}
		refused(t, inside, api.ErrSum)
	}
}

// P8.1: of what is wrong, Magic is told first, then the sum, then all else.
func TestP8_1DecodeWhichError(t *testing.T) {
	for _, c := range []struct {
		b    string
		want api.Errno
	}{
		{"bkst\x02", api.ErrMagic},
		{"bkst\x02\x00\x00\x00\x00", api.ErrMagic},
		{"bkst\x02\x00\x00\x00\x00\x00\x00", api.ErrMagic},
		{string(summed([]byte("bkst\x02\x00\x00"))), api.ErrMagic},
		{"bkst\x01\x00\x00", api.ErrSum},
		{"bkst\x01\x00\x00\x00\x00\x00\x00", api.ErrSum},
		{"bkst\x01\xFF\xFF\xFF\xFF\xFF\xFF", api.ErrSum},
		{string(closed([]byte{0, 0})), api.ErrImage},
		{string(closed([]byte{0xFF, 0xFF})), api.ErrImage},
		{string(closed(nil)), api.ErrImage},
	} {
		refused(t, []byte(c.b), c.want)
	}
}

// P8.1: bytes with a right sum that are no image's: how many parts there are, and the parts.
func TestP8_1DecodeOfWrong(t *testing.T) {
	const f = " 01 66 00 00 00 00 01 18"
	for _, s := range []string{
		"", "00", "00 00", "01", "01 01 00", "01 01 00 00",
		// How many shapes: more than there are, fewer, more than there may be, more bytes than it needs, cut.
		"01 01" + f, "02 01 00 01" + f, "00 01 00 01" + f,
		"41" + strings.Repeat(" 01 00", 65) + " 01" + f,
		"80 40" + strings.Repeat(" 01 00", 64) + " 01" + f,
		"80 01 01 00 01" + f, "80 00 01" + f, "80", "C0", "FF 00 00 00 00 00 00 00 00 01" + f, "FF FF FF FF FF FF FF FF FF",
		// The shapes: none, too long, of P, bits behind, the second one.
		"01 00 01" + f, "01 11 00 00 00 00 00 01" + f, "01 01 03 01" + f, "01 01 04 01" + f, "02 01 00 01 03 01" + f, "02 01 00 00 01" + f,
		// How many functions.
		"00 00", "00 00" + f, "00 02" + f, "00 01" + f + f, "00 80 01" + f, "00 80", "00 FF FF FF FF FF FF FF FF FF", "00 C0 00 01" + f,
		"01 01 00 00", "00 01",
		// The functions: names, types, bodies, the second one.
		"00 01 00 00 00 00 00 01 18", "00 01 01 30 00 00 00 00 01 18", "00 01 01 66 01 04 00 00 00 01 18", "00 01 01 66 00 01 03 00 00 01 18",
		"00 01 01 66 00 00 00 01 00 01 18", "00 01 01 66 00 00 00 00 00", "00 01 01 66 00 00 00 00 01 00", "00 01 01 66 00 00 00 00 01 1E", "00 01 01 66 00 00 00 00 01",
		"00 02" + f + " 01 30 00 00 00 00 01 18", "00 02" + f + " 01 67 00 00 00 00 01 00", "00 02" + f + " 01 67 00 00 00 00 01",
		// Two of one name.
		"00 02" + f + f, "00 02" + f + " 01 66 01 00 00 00 00 01 1B", "00 03" + f + " 01 67 00 00 00 00 01 18" + f,
	} {
		refused(t, closed(unhex(t, s)), api.ErrImage)
	}
	for _, s := range []string{"00 01" + f, "01 01 00 01" + f, "00 02" + f + " 01 46 00 00 00 00 01 18"} {
		if p, e := image.Decode(closed(unhex(t, s))); nothing(p) || e != api.OK {
			t.Errorf("%s: error %d", s, e)
		}
	}
}

// P8.1: bytes of parts each of which may be, but of too many, or of two functions of one name.
func TestP8_1DecodeOfTooMany(t *testing.T) {
	for n := 62; n <= 70; n++ {
		for _, p := range []api.Image{{Shapes: shaped(n, n), Functions: some(2, n)}, {Shapes: shaped(2, n), Functions: some(n, n)}, {Shapes: shaped(n, n), Functions: some(n, n)}} {
			if n > 64 {
				refused(t, bytesOf(t, p), api.ErrImage)
			} else if got, e := image.Decode(bytesOf(t, p)); !like(got, p) || e != api.OK {
				t.Errorf("of %d: %v, error %d", n, got, e)
			}
		}
	}
	for _, p := range twice() {
		refused(t, bytesOf(t, p), api.ErrImage)
	}
	// No function, and shapes.
	for n := range 65 {
		refused(t, bytesOf(t, api.Image{Shapes: shaped(n, n)}), api.ErrImage)
	}
}

// P8.1: bytes with more behind them, or cut, have another sum; with a right one they are no image's either.
func TestP8_1DecodeOfCutAndMore(t *testing.T) {
	for _, p := range small() {
		inside := insideOf(t, p)
		for cut := range inside {
			refused(t, closed(inside[:cut]), api.ErrImage)
		}
		for x := range 256 {
			refused(t, closed(append(slices.Clone(inside), byte(x))), api.ErrImage)
		}
		refused(t, closed(append(slices.Clone(inside), inside...)), api.ErrImage)
		refused(t, summed(bytesOf(t, p)), api.ErrImage)
	}
}

// sumOf is the sum of bytes, as the chapter tells, with numbers without an end that are told by 65521 only at the last.
func sumOf(b []byte) uint32 {
	one, all := big.NewInt(1), new(big.Int)
	for _, x := range b {
		one.Add(one, big.NewInt(int64(x)))
		all.Add(all, one)
	}
	prime := big.NewInt(65521)
	return uint32(65536*all.Mod(all, prime).Int64() + one.Mod(one, prime).Int64())
}

// P8.1: sums as they are published, or written out.
func TestP8_1SumWrittenOut(t *testing.T) {
	for _, c := range []struct {
		s    string
		want uint32
	}{
		{"", 1}, {"\x00", 0x00010001}, {"\x01", 0x00020002}, {"\xFF", 0x01000100}, {"\x00\x00\x00", 0x00030001},
		{"a", 0x00620062}, {"ab", 0x012600c4}, {"abc", 0x024d0127}, {"abcdefghi", 0x118e038e}, {"Wikipedia", 0x11E60398},
		{strings.Repeat("\xFF", 5548) + "8", 0x211297c8}, {strings.Repeat("\xFF", 5549) + "9", 0xbaa198c8}, {strings.Repeat("\xFF", 5550) + "0", 0x553499be},
		{strings.Repeat("\x00", 1e5), 0x86af0001}, {strings.Repeat("a", 1e5), 0x79660b4d}, {strings.Repeat("ABCDEFGHIJKLMNOPQRSTUVWXYZ", 1e4), 0x110588ee},
		// What is left over of the first number is 65520, and 0; so is that of the second one.
		{strings.Repeat("\xFF", 256) + "\xEF", 0x07FFFFF0}, {strings.Repeat("\xFF", 256) + "\xF0", 0x08000000},
		{strings.Repeat("\x00", 65520), 0xFFF00001}, {strings.Repeat("\x00", 65521), 1}, {strings.Repeat("\x00", 65522), 0x00010001},
	} {
		if got := image.Sum([]byte(c.s)); got != c.want {
			t.Errorf("of %d bytes: %08X; want %08X", len(c.s), got, c.want)
		}
	}
}

// P8.1: sums of bytes up to so many that both numbers go beyond 65521 again and again.
func TestP8_1Sum(t *testing.T) {
	for _, n := range []int{0, 1, 2, 3, 15, 16, 17, 255, 256, 257, 258, 512, 3854, 3855, 3856, 5551, 5552, 5553, 65519, 65520, 65521, 65522, 65536, 100000} {
		for _, make := range []func(i int) byte{
			func(int) byte { return 0 },
			func(int) byte { return 1 },
			func(int) byte { return 0xFF },
			func(i int) byte { return byte(i) },
			func(i int) byte { return byte(uint32(i) * 2654435761 >> 24) },
		} {
			var b []byte
			for i := range n {
				b = append(b, make(i))
			}
			if got := image.Sum(b); got != sumOf(b) || got != adler32.Checksum(b) {
				t.Errorf("of %d bytes: %08X; want %08X", n, got, sumOf(b))
			}
		}
	}
	b := bytes.Repeat([]byte{0xFF, 0xFE, 0xFF}, 1<<22)
	if got := image.Sum(b); got != adler32.Checksum(b) {
		t.Errorf("of %d bytes: %08X; want %08X", len(b), got, adler32.Checksum(b))
	}
}

// P8.1: each byte, alone, and each two.
func TestP8_1SumOfFew(t *testing.T) {
	for x := range 256 {
		for y := range 256 {
			b := []byte{byte(x), byte(y)}
			if one, two := image.Sum(b[:1]), image.Sum(b); one != uint32(65536*(x+1)+x+1) || two != uint32(65536*(2*x+y+2)+x+y+1) {
				t.Fatalf("% X: %08X, %08X", b, one, two)
			}
		}
	}
}

// P8.1: no part, and parts without bytes, have the sum of nothing; between others they change nothing.
func TestP8_1SumOfNothing(t *testing.T) {
	for i, got := range []uint32{image.Sum(), image.Sum(nil), image.Sum([]byte{}), image.Sum(nil, nil), image.Sum(nil, []byte{}, nil), image.Sum([][]byte{}...), image.Sum([][]byte(nil)...), image.Sum(make([][]byte, 1000)...)} {
		if got != 1 {
			t.Errorf("%d: %08X; want 1", i, got)
		}
	}
	a, b := []byte("Wiki"), []byte("pedia")
	for i, got := range []uint32{image.Sum(nil, a, b), image.Sum(a, nil, b), image.Sum(a, b, nil), image.Sum([]byte{}, a, []byte{}, []byte{}, b, nil)} {
		if got != 0x11E60398 {
			t.Errorf("%d: %08X", i, got)
		}
	}
}

// P8.1: the sum is that of all bytes, however they are parted; and parts in another order have another one.
func TestP8_1SumOfParts(t *testing.T) {
	for _, n := range []int{1, 2, 9, 100, 700} {
		b := slices.Repeat([]byte("Wikipedia\xFF\x00\xFE"), n)[:n]
		want := sumOf(b)
		for i := range b {
			if got := image.Sum(b[:i], b[i:]); got != want {
				t.Fatalf("%d of %d: %08X; want %08X", i, n, got, want)
			}
			for j := range i {
				if got := image.Sum(b[:j], b[j:i], nil, b[i:]); n <= 100 && got != want {
					t.Fatalf("%d, %d of %d: %08X; want %08X", j, i, n, got, want)
				}
			}
		}
		for size := 1; size <= n; size++ {
			if got := image.Sum(slices.Collect(slices.Chunk(b, size))...); got != want {
				t.Fatalf("of %d, %d each: %08X; want %08X", n, size, got, want)
			}
		}
		if got := image.Sum(b, b, b); got != sumOf(slices.Concat(b, b, b)) {
			t.Errorf("of %d three times: %08X", n, got)
		}
	}
	if one, two := image.Sum([]byte("ab"), []byte("c")), image.Sum([]byte("c"), []byte("ab")); one != 0x024d0127 || two != sumOf([]byte("cab")) || one == two {
		t.Errorf("%08X, %08X", one, two)
	}
	wide := bytes.Repeat([]byte{0xFF}, 70000)
	for _, i := range []int{0, 1, 255, 256, 257, 258, 5552, 65521, 69999, 70000} {
		if got := image.Sum(wide[:i], wide[i:]); got != adler32.Checksum(wide) {
			t.Errorf("%d of %d: %08X", i, len(wide), got)
		}
	}
}

// The chapter's examples.
func TestP8_1ExampleSum(t *testing.T) {
	if got := image.Sum(); got != 1 {
		t.Errorf("of nothing: %08X", got)
	}
	if got := image.Sum([]byte("Wikipedia")); got != 0x11E60398 {
		t.Errorf("of Wikipedia: %08X", got)
	}
}

func TestP8_1ExampleEncode(t *testing.T) {
	want := summed([]byte("bkst\x01\x00\x01\x01f\x00\x00\x00\x00\x01\x18"))
	if b, e := image.Encode(api.Image{Functions: []api.Function{{Name: "f", Body: []api.Instr{{Op: api.OpRet}}}}}); !bytes.Equal(b, want) || e != api.OK {
		t.Errorf("% X, error %d; want % X", b, e, want)
	}
}

func TestP8_1ExampleDecode(t *testing.T) {
	refused(t, nil, api.ErrMagic)
	refused(t, []byte("bkst\x01"), api.ErrSum)
}
