package code_test

import (
	"bytes"
	"slices"
	"testing"

	"backstay/api"
	"backstay/code"
	"backstay/vary"
)

// P5.4: no call changes the list that it is handed, nor what stands behind that in its memory.
func TestP5_4OnlyRead(t *testing.T) {
	for _, l := range append(append(short(), many(t)...), nobodies(t)...) {
		room := append(slices.Clone(l), texts(t, "print, print, print")...)
		kept := slices.Clone(room)
		l = room[:len(l)]
		code.Check(l)
		code.Encode(l)
		code.Heads(l)
		code.Count(l, api.OpNop)
		for _, at := range []int{-1, 0, 1, len(l) / 2, len(l) - 2, len(l) - 1, len(l)} {
			code.Stretch(l, at)
			code.Insert(l, at, api.Instr{Op: api.OpIn})
			code.Delete(l, at)
		}
		if !slices.Equal(room, kept) {
			t.Fatalf("%v: now %v", kept, room)
		}
	}
}

// P5.4: of a Reel's bytes nothing is changed, and a body that was read stays, whatever becomes of them.
func TestP5_4BytesOnlyRead(t *testing.T) {
	for _, l := range many(t) {
		b := append(bytesOf(l), 1, 0x18)
		kept := slices.Clone(b)
		got, e := code.Decode(vary.On(b))
		if e != api.OK || !bytes.Equal(b, kept) {
			t.Fatalf("error %d, % X", e, b)
		}
		clear(b)
		if !slices.Equal(got, l) {
			t.Errorf("%v; want %v", got, l)
		}
		spoil(got)
		if again, e := code.Decode(vary.On(kept)); !slices.Equal(again, l) || e != api.OK {
			t.Errorf("%v, error %d; want %v", again, e, l)
		}
	}
}

// spoil writes over a list, and over all memory behind it.
func spoil(l []api.Instr) {
	l = l[:cap(l)]
	for i := range l {
		l[i] = api.Instr{Op: -9, A: -9, B: -9}
	}
}

// P5.4: what Insert and Delete answer shares no memory with what they were handed.
func TestP5_4EditsAreNew(t *testing.T) {
	for _, l := range append(short(), many(t)...) {
		kept := slices.Clone(l)
		for _, at := range []int{0, len(l) / 2, len(l) - 1} {
			x := api.Instr{Op: api.OpIn}
			longer, e := code.Insert(l, at, x)
			want := slices.Clone(longer)
			shorter, f := code.Delete(l, at)
			left := slices.Clone(shorter)
			spoil(longer)
			if !slices.Equal(l, kept) || !slices.Equal(shorter, left) {
				t.Fatalf("%v: now %v, %v", kept, l, shorter)
			}
			spoil(shorter)
			if !slices.Equal(l, kept) {
				t.Fatalf("%v: now %v", kept, l)
			}
			longer, g := code.Insert(l, at, x)
			shorter, h := code.Delete(l, at)
			spoil(l)
			if !slices.Equal(longer, want) || !slices.Equal(shorter, left) || e != g || f != h {
				t.Fatalf("%v: now %v, %v; want %v, %v", kept, longer, shorter, want, left)
			}
			copy(l, kept)
		}
	}
}

// P5.4: so are heads and bytes new memory.
func TestP5_4HeadsAndBytesAreNew(t *testing.T) {
	for _, l := range many(t) {
		kept := slices.Clone(l)
		heads := code.Heads(l)
		for i := range heads[:cap(heads)] {
			heads[:cap(heads)][i] = -9
		}
		b, _ := code.Encode(l)
		clear(b[:cap(b)])
		if !slices.Equal(l, kept) || !slices.Equal(code.Heads(l), headsOf(l)) {
			t.Errorf("%v: now %v, heads %v", kept, l, code.Heads(l))
		}
		if b, e := code.Encode(l); !bytes.Equal(b, bytesOf(l)) || e != api.OK {
			t.Errorf("%v: % X, error %d", l, b, e)
		}
		heads, b = code.Heads(l), nil
		b, _ = code.Encode(l)
		spoil(l)
		if !slices.Equal(heads, headsOf(kept)) || !bytes.Equal(b, bytesOf(kept)) {
			t.Errorf("%v: %v, % X", kept, heads, b)
		}
	}
}

// P5.5: a body is read from its bytes as it was.
func TestP5_5RoundTrip(t *testing.T) {
	for _, l := range append(short(), many(t)...) {
		b, e := code.Encode(l)
		if e != api.OK {
			continue
		}
		r := vary.On(b)
		if m, e := code.Decode(r); !slices.Equal(m, l) || e != api.OK || r.End() != api.OK {
			t.Errorf("%v: %v, error %d at %d", l, m, e, r.At())
		}
	}
}

// P5.5: a body's stretches are all its places, each once; nothing in the midst of one goes elsewhere, or is gone to.
func TestP5_5StretchesAreAllPlaces(t *testing.T) {
	for _, l := range append(short(), many(t)...) {
		next := 0
		for _, head := range code.Heads(l) {
			from, to, e := code.Stretch(l, head)
			if from != next || to <= from || e != api.OK {
				t.Errorf("%v: at %d a stretch %d, %d, error %d", l, next, from, to, e)
			}
			for _, x := range l[from : to-1] {
				if goes(x) || ends(x) {
					t.Errorf("%v: %v in the midst of %d, %d", l, x, from, to)
				}
			}
			next = to
		}
		if code.Check(l) == api.OK && next != len(l) {
			t.Errorf("%v: stretches up to %d", l, next)
		}
	}
}

// P5.5: what was inserted, and deleted again, is as it was.
func TestP5_5InsertAndDelete(t *testing.T) {
	for _, l := range append(short(), many(t)...) {
		for _, at := range places(l) {
			for _, x := range []api.Instr{{}, {Op: api.OpRet}, {Op: api.OpInt, A: 7}, {Op: api.OpIn}} {
				m, e := code.Insert(l, at, x)
				if e != api.OK {
					if isBody(l) && len(l) < 512 {
						t.Errorf("%v at %d: error %d", l, at, e)
					}
					continue
				}
				if back, e := code.Delete(m, at); !slices.Equal(back, l) || e != api.OK {
					t.Errorf("%v, %v at %d: %v, error %d", l, x, at, back, e)
				}
			}
		}
	}
}

// The chapter's examples.
func TestP5_1ExampleEncode(t *testing.T) {
	if b, e := code.Encode([]api.Instr{{Op: api.OpRet}}); !bytes.Equal(b, []byte{0x01, 0x18}) || e != api.OK {
		t.Errorf("% X, error %d", b, e)
	}
}

func TestP5_2ExampleHeads(t *testing.T) {
	if h := code.Heads(example()); !slices.Equal(h, []int{0, 3, 4}) {
		t.Error(h)
	}
}

func TestP5_3ExampleInsert(t *testing.T) {
	l, e := code.Insert(example(), 3, api.Instr{Op: api.OpNop})
	if e != api.OK || len(l) != 6 || l[2] != (api.Instr{Op: api.OpJz, A: 5}) {
		t.Errorf("%v, error %d", l, e)
	}
}

func TestP5_1ExampleCheck(t *testing.T) {
	if e := code.Check([]api.Instr{{Op: api.OpNop}}); e != api.ErrCode {
		t.Errorf("of nop: error %d", e)
	}
	if e := code.Check([]api.Instr{{Op: api.OpJmp, A: 1}}); e != api.ErrCode {
		t.Errorf("of jmp 1: error %d", e)
	}
}

// example is the body of the chapter's examples: in, drop, jz 4, nop, ret.
func example() []api.Instr {
	return []api.Instr{{Op: api.OpIn}, {Op: api.OpDrop}, {Op: api.OpJz, A: 4}, {Op: api.OpNop}, {Op: api.OpRet}}
}
