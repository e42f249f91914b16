package code_test

import (
	"bytes"
	"math"
	"slices"
	"testing"

	"backstay/api"
	"backstay/code"
)

// P5.1: what is a body, and what is none.
func TestP5_1Check(t *testing.T) {
	for _, l := range append(many(t), texts(t, "ret"), texts(t, "panic"), texts(t, "goexit"), texts(t, "jmp 0"), texts(t, "jz 1, jmp 1")) {
		if e := code.Check(l); e != api.OK {
			t.Errorf("of %d: error %d", len(l), e)
		}
	}
	for _, l := range nobodies(t) {
		if e := code.Check(l); e != api.ErrCode {
			t.Errorf("%v: error %d; want ErrCode", l, e)
		}
	}
}

// P5.1: all short lists.
func TestP5_1CheckShort(t *testing.T) {
	bodies := 0
	for _, l := range short() {
		want := api.ErrCode
		if isBody(l) {
			want = api.OK
			bodies++
		}
		if e := code.Check(l); e != want {
			t.Errorf("%v: error %d; want %d", l, e, want)
		}
	}
	if bodies < 500 {
		t.Errorf("only %d were bodies", bodies)
	}
}

// P5.1: only what ends may stand last, of all ops.
func TestP5_1CheckLast(t *testing.T) {
	for op := range api.Ops {
		for _, l := range [][]api.Instr{{{Op: op}}, {{Op: op, A: 1}}, {{}, {Op: op}}, {{}, {Op: op, A: 1}}, {{}, {Op: op, A: 1, B: 1}}} {
			if e := code.Check(l); (e == api.OK) != isBody(l) {
				t.Errorf("%v: error %d", l, e)
			}
		}
	}
}

// P5.1: one may go to the last place, not to the one behind it; in a body of any length.
func TestP5_1CheckPlaces(t *testing.T) {
	for _, n := range []int{1, 2, 3, 100, 511, 512} {
		for _, op := range []int{api.OpJmp, api.OpJz} {
			for _, at := range []int{0, n / 2, n - 1} {
				for _, to := range []int{-1, 0, n - 2, n - 1, n, n + 1, 511, 512, math.MaxInt64, math.MinInt64} {
					l := long(n)
					l[at] = api.Instr{Op: op, A: int64(to)}
					want := api.ErrCode
					if to >= 0 && to < n && (op == api.OpJmp || at < n-1) {
						want = api.OK
					}
					if e := code.Check(l); e != want {
						t.Errorf("of %d, at %d %v: error %d; want %d", n, at, l[at], e, want)
					}
				}
			}
		}
	}
}

// P5.1: bytes, written out.
func TestP5_1EncodeWrittenOut(t *testing.T) {
	for _, c := range []struct{ l, b string }{
		{"ret", "01 18"},
		{"jmp 0", "01 12 00"},
		{"in, drop, jz 4, nop, ret", "05 1D 0D 13 04 00 18"},
		{"int -5, int 300, print, goexit", "04 01 09 01 82 58 1C 1B"},
		{"get 2 I, set 0 R, panic", "03 09 02 01 0A 00 02 19"},
		{"zero P, bin div, un u32, eq F, jz 0, call 63, ret", "07 02 04 0F 03 10 08 11 03 13 00 14 3F 18"},
	} {
		if b, e := code.Encode(texts(t, c.l)); !bytes.Equal(b, unhex(t, c.b)) || e != api.OK {
			t.Errorf("%s: % X, error %d; want %s", c.l, b, e, c.b)
		}
	}
	for _, c := range []struct {
		n    int
		head string
	}{
		{127, "7F"}, {128, "80 80"}, {256, "81 00"}, {511, "81 FF"}, {512, "82 00"},
	} {
		want := append(unhex(t, c.head), make([]byte, c.n-1)...)
		want = append(want, 0x18)
		if b, e := code.Encode(long(c.n)); !bytes.Equal(b, want) || e != api.OK {
			t.Errorf("of %d: % X, error %d", c.n, b, e)
		}
	}
}

// P5.1: how many there are, then each one's; ErrCode, unless the list is a body.
func TestP5_1Encode(t *testing.T) {
	for _, l := range append(append(short(), many(t)...), nobodies(t)...) {
		b, e := code.Encode(l)
		if isBody(l) && (!bytes.Equal(b, bytesOf(l)) || e != api.OK) {
			t.Errorf("%v: % X, error %d; want % X", l, b, e, bytesOf(l))
		}
		if !isBody(l) && (len(b) != 0 || e != api.ErrCode) {
			t.Errorf("%v: % X, error %d; want ErrCode", l, b, e)
		}
	}
}

// P5.3: how many have an op, of any list.
func TestP5_3Count(t *testing.T) {
	for _, l := range append(append(short(), many(t)...), nobodies(t)...) {
		for op := -2; op < api.Ops+2; op++ {
			want := len(l) - len(slices.DeleteFunc(slices.Clone(l), func(x api.Instr) bool { return x.Op == op }))
			if n := code.Count(l, op); n != want {
				t.Errorf("%v: %d have %d; want %d", l, n, op, want)
			}
		}
	}
}

// P5.3: counts, written out; of an op that there is not, too.
func TestP5_3CountWrittenOut(t *testing.T) {
	l := texts(t, "nop, in, drop, nop, jz 1, nop")
	for _, c := range []struct{ op, want int }{
		{api.OpNop, 3}, {api.OpIn, 1}, {api.OpDrop, 1}, {api.OpJz, 1}, {api.OpJmp, 0}, {api.OpRet, 0}, {api.Ops, 0}, {-1, 0}, {math.MaxInt, 0}, {math.MinInt, 0},
	} {
		if n := code.Count(l, c.op); n != c.want {
			t.Errorf("%d have %d; want %d", n, c.op, c.want)
		}
	}
	if n := code.Count([]api.Instr{{Op: 30}, {Op: -1}, {Op: 30, A: 7}}, 30); n != 2 {
		t.Errorf("%d have 30; want 2", n)
	}
	if n := code.Count(nil, 0); n != 0 {
		t.Errorf("of none %d; want 0", n)
	}
	if n := code.Count(long(5000), api.OpNop); n != 4999 {
		t.Errorf("of a list longer than any body %d; want 4999", n)
	}
}
