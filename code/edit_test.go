package code_test

import (
	"slices"
	"testing"

	"backstay/api"
	"backstay/code"
)

// loop is a body that goes to its first place, its last one, and some between.
const loop = "jz 4, jz 3, jz 2, jz 0, jmp 1"

// P5.3: what is inserted, written out: where one goes to a place behind, it goes one farther, to at itself as before.
func TestP5_3InsertWrittenOut(t *testing.T) {
	for _, c := range []struct {
		l    string
		at   int
		x    string
		want string
	}{
		{"ret", 0, "nop", "nop, ret"},
		{"ret", 0, "ret", "ret, ret"},
		{"jmp 0", 0, "nop", "nop, jmp 0"},
		{"in, drop, jz 4, nop, ret", 3, "nop", "in, drop, jz 5, nop, nop, ret"},
		{"in, drop, jz 4, nop, ret", 4, "nop", "in, drop, jz 4, nop, nop, ret"},
		{"in, drop, jz 4, nop, ret", 0, "print", "print, in, drop, jz 5, nop, ret"},
		{loop, 0, "nop", "nop, jz 5, jz 4, jz 3, jz 0, jmp 2"},
		{loop, 1, "nop", "jz 5, nop, jz 4, jz 3, jz 0, jmp 1"},
		{loop, 2, "nop", "jz 5, jz 4, nop, jz 2, jz 0, jmp 1"},
		{loop, 3, "nop", "jz 5, jz 3, jz 2, nop, jz 0, jmp 1"},
		{loop, 4, "nop", "jz 4, jz 3, jz 2, jz 0, nop, jmp 1"},
		{loop, 4, "goexit", "jz 4, jz 3, jz 2, jz 0, goexit, jmp 1"},
		{loop, 2, "int 3", "jz 5, jz 4, int 3, jz 2, jz 0, jmp 1"},
	} {
		if l, e := code.Insert(texts(t, c.l), c.at, texts(t, c.x)[0]); !slices.Equal(l, texts(t, c.want)) || e != api.OK {
			t.Errorf("%s into %s at %d: %v, error %d; want %s", c.x, c.l, c.at, l, e, c.want)
		}
	}
}

// P5.3: what is inserted goes itself where it was told to, by the places that there are with it.
func TestP5_3InsertOfOneThatGoes(t *testing.T) {
	for to := range int64(6) {
		for at := range 5 {
			for _, op := range []int{api.OpJmp, api.OpJz} {
				x := api.Instr{Op: op, A: to}
				if l, e := code.Insert(texts(t, loop), at, x); e != api.OK || len(l) != 6 || l[at] != x {
					t.Errorf("%v at %d: %v, error %d", x, at, l, e)
				}
			}
		}
	}
	for _, to := range []int64{-1, 6, 7, 511, 512} {
		if l, e := code.Insert(texts(t, loop), 2, api.Instr{Op: api.OpJmp, A: to}); len(l) != 0 || e != api.ErrCode {
			t.Errorf("to %d: %v, error %d; want ErrCode", to, l, e)
		}
	}
}

// P5.3: ErrCode of places that there are not, of one that may not be, and of lists that are no bodies.
func TestP5_3InsertOfWrong(t *testing.T) {
	nop := api.Instr{}
	for _, at := range []int{-1 << 63, -2, -1, 5, 6, 512, 1<<63 - 1} {
		if l, e := code.Insert(texts(t, loop), at, nop); len(l) != 0 || e != api.ErrCode {
			t.Errorf("at %d: %v, error %d; want ErrCode", at, l, e)
		}
	}
	for _, x := range []api.Instr{{Op: -1}, {Op: api.Ops}, {A: 1}, {B: 1}, {Op: api.OpZero}, {Op: api.OpGet, A: 16, B: 1}, {Op: api.OpRet, B: 2}} {
		for at := range 5 {
			if l, e := code.Insert(texts(t, loop), at, x); len(l) != 0 || e != api.ErrCode {
				t.Errorf("%v at %d: %v, error %d; want ErrCode", x, at, l, e)
			}
		}
	}
	for _, l := range nobodies(t) {
		for at := -1; at <= min(len(l), 3); at++ {
			for _, x := range []api.Instr{nop, {Op: api.OpRet}, {Op: api.OpJmp}} {
				if m, e := code.Insert(l, at, x); len(m) != 0 || e != api.ErrCode {
					t.Errorf("%v into %v at %d: %v, error %d; want ErrCode", x, l, at, m, e)
				}
			}
		}
	}
}

// P5.3: into a body of 511 one more may be inserted, into one of 512 none.
func TestP5_3InsertIntoLongest(t *testing.T) {
	for _, at := range []int{0, 1, 300, 510} {
		l := long(511)
		l[0] = api.Instr{Op: api.OpJz, A: 510}
		want, _ := withOne(l, at, api.Instr{Op: api.OpIn})
		if m, e := code.Insert(l, at, api.Instr{Op: api.OpIn}); len(m) != 512 || !slices.Equal(m, want) || e != api.OK {
			t.Errorf("at %d: %d, error %d", at, len(m), e)
		}
	}
	for at := -1; at < 513; at++ {
		if m, e := code.Insert(long(512), at, api.Instr{}); len(m) != 0 || e != api.ErrCode {
			t.Errorf("at %d: %d, error %d; want ErrCode", at, len(m), e)
		}
	}
}

// P5.3: all that may be inserted anywhere into short lists.
func TestP5_3Insert(t *testing.T) {
	for _, l := range short() {
		for at := -1; at <= len(l); at++ {
			for _, x := range some() {
				want, wrong := withOne(l, at, x)
				if m, e := code.Insert(l, at, x); !slices.Equal(m, want) || e != wrong {
					t.Fatalf("%v into %v at %d: %v, error %d; want %v, %d", x, l, at, m, e, want, wrong)
				}
			}
		}
	}
}

// P5.3: what is left, written out: where one goes to a place behind, it goes one less far, to at itself as before.
func TestP5_3DeleteWrittenOut(t *testing.T) {
	for _, c := range []struct {
		l    string
		at   int
		want string
	}{
		{"nop, ret", 0, "ret"},
		{"ret, ret", 0, "ret"},
		{"ret, ret", 1, "ret"},
		{"nop, jmp 0", 0, "jmp 0"},
		{"nop, jmp 1", 0, "jmp 0"},
		{"in, drop, jz 4, nop, ret", 0, "drop, jz 3, nop, ret"},
		{"in, drop, jz 4, nop, ret", 2, "in, drop, nop, ret"},
		{"in, drop, jz 4, nop, ret", 3, "in, drop, jz 3, ret"},
		{"in, drop, jz 4, nop, ret, panic", 4, "in, drop, jz 4, nop, panic"},
		{"in, drop, jz 4, nop, ret, panic", 5, "in, drop, jz 4, nop, ret"},
		{loop, 0, "jz 2, jz 1, jz 0, jmp 0"},
		{loop, 1, "jz 3, jz 1, jz 0, jmp 1"},
		{loop, 2, "jz 3, jz 2, jz 0, jmp 1"},
		{loop, 3, "jz 3, jz 3, jz 2, jmp 1"},
	} {
		if l, e := code.Delete(texts(t, c.l), c.at); !slices.Equal(l, texts(t, c.want)) || e != api.OK {
			t.Errorf("%s without %d: %v, error %d; want %s", c.l, c.at, l, e, c.want)
		}
	}
}

// P5.3: ErrCode, if what is left is no body, or the place or the body is none.
func TestP5_3DeleteOfWrong(t *testing.T) {
	for _, c := range []struct {
		l  string
		at int
	}{
		{"ret", 0},
		{"jmp 0", 0},
		{"nop, ret", 1},
		{"jz 0, ret", 1},
		{"jz 2, ret, ret", 2},
		{"jmp 2, ret, ret", 2},
		{loop, 4},
		{loop, -1},
		{loop, 5},
		{loop, 6},
		{loop, -1 << 63},
		{loop, 1<<63 - 1},
	} {
		if l, e := code.Delete(texts(t, c.l), c.at); len(l) != 0 || e != api.ErrCode {
			t.Errorf("%s without %d: %v, error %d; want ErrCode", c.l, c.at, l, e)
		}
	}
	for _, l := range nobodies(t) {
		for at := -1; at <= min(len(l), 3); at++ {
			if m, e := code.Delete(l, at); len(m) != 0 || e != api.ErrCode {
				t.Errorf("%v without %d: %v, error %d; want ErrCode", l, at, m, e)
			}
		}
		// Not even where a body would be left.
		if m, e := code.Delete(l, len(l)-1); len(m) != 0 || e != api.ErrCode {
			t.Errorf("%v without the last: %v, error %d; want ErrCode", l, m, e)
		}
	}
}

// P5.3: all that may be deleted anywhere of short lists.
func TestP5_3Delete(t *testing.T) {
	for _, l := range short() {
		for at := -1; at <= len(l); at++ {
			want, wrong := withoutOne(l, at)
			if m, e := code.Delete(l, at); !slices.Equal(m, want) || e != wrong {
				t.Fatalf("%v without %d: %v, error %d; want %v, %d", l, at, m, e, want, wrong)
			}
		}
	}
}

// P5.3: likewise of bodies of all lengths.
func TestP5_3EditMany(t *testing.T) {
	for _, l := range many(t) {
		for _, at := range append(places(l), -1, len(l)) {
			for _, x := range []api.Instr{{}, {Op: api.OpRet}, {Op: api.OpJz, A: int64(len(l))}} {
				want, wrong := withOne(l, at, x)
				if m, e := code.Insert(l, at, x); !slices.Equal(m, want) || e != wrong {
					t.Fatalf("%v into %d at %d: error %d; want %d", x, len(l), at, e, wrong)
				}
			}
			want, wrong := withoutOne(l, at)
			if m, e := code.Delete(l, at); !slices.Equal(m, want) || e != wrong {
				t.Fatalf("%d without %d: error %d; want %d", len(l), at, e, wrong)
			}
		}
	}
}
