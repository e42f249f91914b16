package opcode_test

import (
	"bytes"
	"encoding/hex"
	"strings"
	"testing"

	"backstay/api"
	"backstay/opcode"
	"backstay/vary"
)

// unhex are the bytes that a text tells, in pairs of digits.
func unhex(t *testing.T, s string) []byte {
	t.Helper()
	b, err := hex.DecodeString(strings.ReplaceAll(s, " ", ""))
	if err != nil {
		t.Fatal(err)
	}
	return b
}

// instrBytes are an instruction's bytes, written out.
type instrBytes struct {
	x api.Instr
	b string
}

// writtenOut are instructions of each kind of operand, with their bytes.
func writtenOut() []instrBytes {
	return []instrBytes{
		{api.Instr{Op: api.OpNop}, "00"},
		{api.Instr{Op: api.OpInt}, "01 00"},
		{api.Instr{Op: api.OpInt, A: -5}, "01 09"},
		{api.Instr{Op: api.OpInt, A: -1}, "01 01"},
		{api.Instr{Op: api.OpInt, A: 1}, "01 02"},
		{api.Instr{Op: api.OpInt, A: 63}, "01 7E"},
		{api.Instr{Op: api.OpInt, A: -64}, "01 7F"},
		{api.Instr{Op: api.OpInt, A: 64}, "01 80 80"},
		{api.Instr{Op: api.OpInt, A: -1 << 63}, "01 FF FF FF FF FF FF FF FF FF"},
		{api.Instr{Op: api.OpInt, A: 1<<63 - 1}, "01 FF FF FF FF FF FF FF FF FE"},
		{api.Instr{Op: api.OpZero, A: 4}, "02 04"},
		{api.Instr{Op: api.OpLoad, A: 63}, "03 3F"},
		{api.Instr{Op: api.OpStore}, "04 00"},
		{api.Instr{Op: api.OpAddr, A: 5}, "05 05"},
		{api.Instr{Op: api.OpLdp}, "06"},
		{api.Instr{Op: api.OpStp}, "07"},
		{api.Instr{Op: api.OpNew, A: 2}, "08 02"},
		{api.Instr{Op: api.OpGet, A: 2, B: 1}, "09 02 01"},
		{api.Instr{Op: api.OpSet, A: 15, B: 3}, "0A 0F 03"},
		{api.Instr{Op: api.OpFunc, A: 7}, "0B 07"},
		{api.Instr{Op: api.OpBin, A: 13}, "0F 0D"},
		{api.Instr{Op: api.OpUn, A: 8}, "10 08"},
		{api.Instr{Op: api.OpEq, A: 1}, "11 01"},
		{api.Instr{Op: api.OpJmp, A: 127}, "12 7F"},
		{api.Instr{Op: api.OpJmp, A: 128}, "12 80 80"},
		{api.Instr{Op: api.OpJz, A: 511}, "13 81 FF"},
		{api.Instr{Op: api.OpDeferi, A: 1}, "17 01"},
		{api.Instr{Op: api.OpRet}, "18"},
		{api.Instr{Op: api.OpIn}, "1D"},
	}
}

// P4.2: bytes, written out.
func TestP4_2EncodeWrittenOut(t *testing.T) {
	for _, c := range writtenOut() {
		want := unhex(t, c.b)
		if b, e := opcode.Encode(c.x); !bytes.Equal(b, want) || e != api.OK {
			t.Errorf("%v: % X, error %d; want % X", c.x, b, e, want)
		}
		if x, e := opcode.Decode(vary.On(want)); x != c.x || e != api.OK {
			t.Errorf("% X: %v, error %d; want %v", want, x, e, c.x)
		}
	}
}

// P4.2: Op, and each operand that there is, in order; ErrOpcode, unless it may be.
func TestP4_2Encode(t *testing.T) {
	for _, x := range mayBe() {
		if b, e := opcode.Encode(x); !bytes.Equal(b, bytesOf(x)) || e != api.OK {
			t.Errorf("%v: % X, error %d; want % X", x, b, e, bytesOf(x))
		}
	}
	for _, x := range mayNotBe() {
		if b, e := opcode.Encode(x); len(b) != 0 || e != api.ErrOpcode {
			t.Errorf("%v: % X, error %d; want ErrOpcode", x, b, e)
		}
	}
}

// P4.2: an instruction is read wherever its bytes stand, whatever stands behind, and the Reel's place is behind it.
func TestP4_2Decode(t *testing.T) {
	for _, x := range mayBe() {
		for _, ahead := range []int{0, 1, 5} {
			for _, tail := range [][]byte{nil, {0}, {0x1D}, {0xFF}, {0x80, 0x05}} {
				b := append(make([]byte, ahead), bytesOf(x)...)
				r := vary.On(append(b, tail...))
				if _, e := r.Raw(ahead); e != api.OK {
					t.Fatal(e)
				}
				if got, e := opcode.Decode(r); got != x || e != api.OK || r.At() != len(b) {
					t.Errorf("%v behind %d, ahead of % X: %v, error %d at %d", x, ahead, tail, got, e, r.At())
				}
				if rest, e := r.Raw(len(tail)); !bytes.Equal(rest, tail) || e != api.OK || r.End() != api.OK {
					t.Errorf("%v: behind it % X, error %d; want % X", x, rest, e, tail)
				}
			}
		}
	}
}

// P4.2: bytes that are cut are ErrShort, wherever that is.
func TestP4_2DecodeOfCut(t *testing.T) {
	for _, x := range mayBe() {
		b := bytesOf(x)
		for cut := range b {
			if got, e := opcode.Decode(vary.On(b[:cut])); got != (api.Instr{}) || e != api.ErrShort {
				t.Errorf("% X of %v: %v, error %d; want ErrShort", b[:cut], x, got, e)
			}
		}
	}
}

// P4.2: an Op, or an operand, that is too great, in a wrong form, or below its range, each with bytes behind it, too.
func TestP4_2DecodeOfWrong(t *testing.T) {
	for _, c := range []struct {
		b    string
		want api.Errno
	}{
		{"1E", api.ErrRange},
		{"1F", api.ErrRange},
		{"7F", api.ErrRange},
		{"80 80", api.ErrRange},
		{"BF FF", api.ErrRange},
		{"FF FF FF FF FF FF FF FF FF", api.ErrRange},
		{"FF 80 00 00 00 00 00 00 01", api.ErrRange},
		{"80 00", api.ErrForm},
		{"80 18", api.ErrForm},
		{"80 1E", api.ErrForm},
		{"C0 00 18", api.ErrForm},
		{"FF 00 00 00 00 00 00 00 18", api.ErrForm},

		{"01 80 05", api.ErrForm},
		{"01 FF 00 00 00 00 00 00 00 01", api.ErrForm},
		{"12 80 05", api.ErrForm},
		{"09 80 02 01", api.ErrForm},
		{"09 02 80 01", api.ErrForm},

		{"02 00", api.ErrOpcode},
		{"11 00", api.ErrOpcode},
		{"09 00 00", api.ErrOpcode},
		{"09 0F 00", api.ErrOpcode},
		{"0A 00 00", api.ErrOpcode},

		{"02 05", api.ErrRange},
		{"11 05", api.ErrRange},
		{"11 FF FF FF FF FF FF FF FF FF", api.ErrRange},
		{"09 00 04", api.ErrRange},
		{"0A 0F 04", api.ErrRange},
		{"03 40", api.ErrRange},
		{"04 40", api.ErrRange},
		{"05 40", api.ErrRange},
		{"05 FF 80 00 00 00 00 00 00 00", api.ErrRange},
		{"08 40", api.ErrRange},
		{"09 10 01", api.ErrRange},
		{"0A 10 01", api.ErrRange},
		{"09 10 00", api.ErrRange},
		{"0A 10 04", api.ErrRange},
		{"0B 40", api.ErrRange},
		{"14 40", api.ErrRange},
		{"15 40", api.ErrRange},
		{"16 40", api.ErrRange},
		{"17 40", api.ErrRange},
		{"0F 0E", api.ErrRange},
		{"10 09", api.ErrRange},
		{"12 82 00", api.ErrRange},
		{"13 82 00", api.ErrRange},
	} {
		for _, tail := range []string{"", "00", "01 01 01"} {
			b := unhex(t, c.b+tail)
			if x, e := opcode.Decode(vary.On(b)); x != (api.Instr{}) || e != c.want {
				t.Errorf("% X: %v, error %d; want %d", b, x, e, c.want)
			}
		}
	}
}

// P4.2: what is wrong first is told: the first operand's error, even if the second one is cut.
func TestP4_2DecodeOfTwoErrors(t *testing.T) {
	for b, want := range map[string]api.Errno{
		"1E":       api.ErrRange,
		"09 10":    api.ErrRange,
		"09 80 02": api.ErrForm,
		"09 02":    api.ErrShort,
		"09":       api.ErrShort,
		"0A 0F 80": api.ErrShort,
		"09 80":    api.ErrShort,
	} {
		if x, e := opcode.Decode(vary.On(unhex(t, b))); x != (api.Instr{}) || e != want {
			t.Errorf("%s: %v, error %d; want %d", b, x, e, want)
		}
	}
}

// P4.2: of no Reel it is ErrNil, of one that nobody made ErrShort.
func TestP4_2DecodeOfNone(t *testing.T) {
	if x, e := opcode.Decode(nil); x != (api.Instr{}) || e != api.ErrNil {
		t.Errorf("of none: %v, error %d", x, e)
	}
	if x, e := opcode.Decode(new(vary.Reel)); x != (api.Instr{}) || e != api.ErrShort {
		t.Errorf("of one without bytes: %v, error %d", x, e)
	}
}

// P4.2: of any three bytes what is read may be, and has just the bytes that were read.
func TestP4_2DecodeOfAny(t *testing.T) {
	for op := range 256 {
		for first := range 256 {
			for _, second := range []byte{0, 1, 2, 3, 4, 5, 0x7F, 0x80, 0xC0, 0xFF} {
				b := []byte{byte(op), byte(first), second}
				r := vary.On(b)
				x, e := opcode.Decode(r)
				if e != api.OK {
					if x != (api.Instr{}) {
						t.Fatalf("% X: %v beside error %d", b, x, e)
					}
					continue
				}
				if back, f := opcode.Encode(x); f != api.OK || !bytes.Equal(back, b[:r.At()]) {
					t.Fatalf("% X is %v, whose bytes are % X, error %d", b, x, back, f)
				}
			}
		}
	}
}
