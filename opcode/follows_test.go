package opcode_test

import (
	"bytes"
	"slices"
	"testing"

	"backstay/api"
	"backstay/opcode"
	"backstay/vary"
)

// P4.5: what an effect is told in is new memory: what is done to it is seen nowhere else.
func TestP4_5EffectIsNew(t *testing.T) {
	for _, x := range mayBe() {
		takes, leaves, _ := opcode.Effect(x)
		wantTakes, wantLeaves := slices.Clone(takes), slices.Clone(leaves)
		for i := range takes {
			takes[i] = -9
		}
		_ = append(takes[:len(takes):cap(takes)], -9)
		if !slices.Equal(leaves, wantLeaves) {
			t.Errorf("%v: what it leaves was written over: %v", x, leaves)
		}
		for i := range leaves {
			leaves[i] = -8
		}
		for _, l := range [][]int{takes, leaves} {
			for i := range l[:cap(l)] {
				l[:cap(l)][i] = -7
			}
		}
		if takes, leaves, _ := opcode.Effect(x); !slices.Equal(takes, wantTakes) || !slices.Equal(leaves, wantLeaves) {
			t.Errorf("%v: %v : %v, want %v : %v", x, takes, leaves, wantTakes, wantLeaves)
		}
	}
}

// P4.5: so are bytes.
func TestP4_5BytesAreNew(t *testing.T) {
	for _, x := range mayBe() {
		b, _ := opcode.Encode(x)
		for i := range b {
			b[i] ^= 0xFF
		}
		if again, e := opcode.Encode(x); !bytes.Equal(again, bytesOf(x)) || e != api.OK {
			t.Errorf("%v: % X, error %d", x, again, e)
		}
	}
}

// P4.5: of a Reel no more is read than the instruction, and of its bytes nothing is changed.
func TestP4_5ReelOnlyRead(t *testing.T) {
	for _, x := range mayBe() {
		b := append(bytesOf(x), 1, 2, 3)
		kept := slices.Clone(b)
		r := vary.On(b)
		if _, e := opcode.Decode(r); e != api.OK || r.At() != len(b)-3 || !bytes.Equal(b, kept) {
			t.Errorf("%v: error %d at %d, % X", x, e, r.At(), b)
		}
	}
}

// P4.5: asked again, it is answered the same.
func TestP4_5Again(t *testing.T) {
	for _, x := range append(mayBe(), mayNotBe()...) {
		b, e := opcode.Encode(x)
		c, f := opcode.Encode(x)
		if !bytes.Equal(b, c) || e != f || opcode.Show(x) != opcode.Show(x) || opcode.Check(x) != opcode.Check(x) || opcode.Ends(x) != opcode.Ends(x) {
			t.Errorf("%v: % X, % X, errors %d, %d", x, b, c, e, f)
		}
	}
}

// P4.6: an instruction is read from its bytes, and from its text, as it was.
func TestP4_6RoundTrip(t *testing.T) {
	for _, x := range mayBe() {
		b, e := opcode.Encode(x)
		if back, f := opcode.Decode(vary.On(b)); back != x || e != api.OK || f != api.OK {
			t.Errorf("%v: % X, %v, errors %d, %d", x, b, back, e, f)
		}
		if back, e := opcode.Read(opcode.Show(x)); back != x || e != api.OK {
			t.Errorf("%v: %q, %v, error %d", x, opcode.Show(x), back, e)
		}
	}
}

// P4.6: written one behind the other, they are read in that order, to the end.
func TestP4_6RoundTripOfMany(t *testing.T) {
	var all []byte
	for _, x := range mayBe() {
		b, e := opcode.Encode(x)
		if e != api.OK {
			t.Fatalf("%v: error %d", x, e)
		}
		all = append(all, b...)
	}
	r := vary.On(all)
	for _, x := range mayBe() {
		if got, e := opcode.Decode(r); got != x || e != api.OK {
			t.Fatalf("%v, error %d at %d; want %v", got, e, r.At(), x)
		}
	}
	if e := r.End(); e != api.OK {
		t.Errorf("error %d at %d", e, r.At())
	}
}

// P4.6: no two instructions have the same bytes, or the same text.
func TestP4_6NoTwoAlike(t *testing.T) {
	byBytes, byText := make(map[string]api.Instr), make(map[string]api.Instr)
	for _, x := range mayBe() {
		b, _ := opcode.Encode(x)
		if y, ok := byBytes[string(b)]; ok && y != x {
			t.Errorf("%v and %v: % X", x, y, b)
		}
		if y, ok := byText[opcode.Show(x)]; ok && y != x {
			t.Errorf("%v and %v: %q", x, y, opcode.Show(x))
		}
		byBytes[string(b)], byText[opcode.Show(x)] = x, x
	}
}

// The chapter's examples.
func TestP4_4Examples(t *testing.T) {
	for text, x := range map[string]api.Instr{
		"int -5":  {Op: api.OpInt, A: -5},
		"get 2 I": {Op: api.OpGet, A: 2, B: api.TypeI},
		"bin div": {Op: api.OpBin, A: 3},
		"jz 17":   {Op: api.OpJz, A: 17},
	} {
		if got := opcode.Show(x); got != text {
			t.Errorf("Show of %v: %q, want %q", x, got, text)
		}
	}
}

func TestP4_2Examples(t *testing.T) {
	if b, e := opcode.Encode(api.Instr{Op: api.OpInt, A: -5}); !bytes.Equal(b, []byte{0x01, 0x09}) || e != api.OK {
		t.Errorf("Encode of int -5: % X, error %d", b, e)
	}
	if b, e := opcode.Encode(api.Instr{Op: api.OpGet, A: 2, B: api.TypeI}); !bytes.Equal(b, []byte{0x09, 0x02, 0x01}) || e != api.OK {
		t.Errorf("Encode of get 2, I: % X, error %d", b, e)
	}
}

func TestP4_3Examples(t *testing.T) {
	takes, leaves, fixed := opcode.Effect(api.Instr{Op: api.OpSet, A: 0, B: api.TypeR})
	if !slices.Equal(takes, []int{api.TypeR, api.TypeR}) || len(leaves) != 0 || !fixed {
		t.Errorf("Effect of set 0, R: %v : %v, %v", takes, leaves, fixed)
	}
}

func TestP4_1Examples(t *testing.T) {
	for _, x := range []api.Instr{{Op: api.OpGet, A: 0, B: api.TypeP}, {Op: api.OpJmp, A: 512}, {Op: api.OpNop, A: 1}, {Op: api.OpNop, B: 1}} {
		if e := opcode.Check(x); e != api.ErrOpcode {
			t.Errorf("Check of %v: error %d, want ErrOpcode", x, e)
		}
	}
}
