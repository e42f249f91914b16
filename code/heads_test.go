package code_test

import (
	"slices"
	"testing"

	"backstay/api"
	"backstay/code"
)

// P5.2: heads, written out: behind a jz, behind what ends, where one goes, once each, and never behind the last place.
func TestP5_2HeadsWrittenOut(t *testing.T) {
	for _, c := range []struct {
		l    string
		want []int
	}{
		{"ret", []int{0}},
		{"panic", []int{0}},
		{"jmp 0", []int{0}},
		{"nop, nop, ret", []int{0}},
		{"in, drop, jz 4, nop, ret", []int{0, 3, 4}},
		{"in, drop, jz 3, nop, ret", []int{0, 3}},
		{"in, drop, jz 2, nop, ret", []int{0, 2, 3}},
		{"in, drop, jz 1, nop, ret", []int{0, 1, 3}},
		{"in, drop, jz 0, nop, ret", []int{0, 3}},
		{"ret, nop, ret", []int{0, 1}},
		{"panic, nop, ret", []int{0, 1}},
		{"goexit, nop, ret", []int{0, 1}},
		{"jmp 0, nop, ret", []int{0, 1}},
		{"jmp 1, nop, ret", []int{0, 1}},
		{"jmp 2, nop, ret", []int{0, 1, 2}},
		{"nop, nop, jmp 2", []int{0, 2}},
		{"nop, nop, jmp 1", []int{0, 1}},
		{"ret, ret, ret, ret", []int{0, 1, 2, 3}},
		{"jz 3, jz 3, jz 3, ret", []int{0, 1, 2, 3}},
		{"nop, jz 4, nop, jmp 1, panic", []int{0, 1, 2, 4}},
		{"call 0, calli 1, defer 2, deferi 3, recover, print, ret", []int{0}},
	} {
		if h := code.Heads(texts(t, c.l)); !slices.Equal(h, c.want) {
			t.Errorf("%s: %v; want %v", c.l, h, c.want)
		}
	}
}

// P5.2: of a body its heads, rising; of what is none nothing.
func TestP5_2Heads(t *testing.T) {
	for _, l := range append(append(short(), many(t)...), nobodies(t)...) {
		var want []int
		if isBody(l) {
			want = headsOf(l)
		}
		if h := code.Heads(l); !slices.Equal(h, want) {
			t.Errorf("%v: %v; want %v", l, h, want)
		}
	}
}

// P5.2: the last place of the longest body is a head where one goes there, or what is ahead of it ends.
func TestP5_2HeadsOfLongest(t *testing.T) {
	l := long(512)
	if h := code.Heads(l); !slices.Equal(h, []int{0}) {
		t.Error(h)
	}
	l[7] = api.Instr{Op: api.OpJz, A: 511}
	if h := code.Heads(l); !slices.Equal(h, []int{0, 8, 511}) {
		t.Error(h)
	}
	l[511] = api.Instr{Op: api.OpJmp, A: 510}
	if h := code.Heads(l); !slices.Equal(h, []int{0, 8, 510, 511}) {
		t.Error(h)
	}
	for at := range l {
		l[at] = api.Instr{Op: api.OpRet}
	}
	if h := code.Heads(l); len(h) != 512 || h[0] != 0 || h[511] != 511 {
		t.Error(h)
	}
}

// P5.2: a stretch begins at its head, and ends ahead of the next one, or behind all.
func TestP5_2StretchWrittenOut(t *testing.T) {
	l := texts(t, "in, drop, jz 4, nop, ret, nop, nop, ret")
	for _, c := range []struct{ head, to int }{{0, 3}, {3, 4}, {4, 5}, {5, 8}} {
		if from, to, e := code.Stretch(l, c.head); from != c.head || to != c.to || e != api.OK {
			t.Errorf("%d: %d, %d, error %d; want %d", c.head, from, to, e, c.to)
		}
	}
	for _, head := range []int{-1 << 63, -1, 1, 2, 6, 7, 8, 9, 512, 1<<63 - 1} {
		if from, to, e := code.Stretch(l, head); from != 0 || to != 0 || e != api.ErrCode {
			t.Errorf("%d: %d, %d, error %d; want ErrCode", head, from, to, e)
		}
	}
	if from, to, e := code.Stretch(texts(t, "ret"), 0); from != 0 || to != 1 || e != api.OK {
		t.Errorf("of one: %d, %d, error %d", from, to, e)
	}
	if from, to, e := code.Stretch(long(512), 0); from != 0 || to != 512 || e != api.OK {
		t.Errorf("of the longest: %d, %d, error %d", from, to, e)
	}
}

// P5.2: ErrCode, unless the list is a body, and the place one of its heads.
func TestP5_2Stretch(t *testing.T) {
	for _, l := range append(append(short(), many(t)...), nobodies(t)...) {
		heads := headsOf(l)
		for head := -2; head < min(len(l), 60)+2; head++ {
			from, to, e := code.Stretch(l, head)
			at := slices.Index(heads, head)
			switch {
			case !isBody(l) || at < 0:
				if from != 0 || to != 0 || e != api.ErrCode {
					t.Errorf("%v, %d: %d, %d, error %d; want ErrCode", l, head, from, to, e)
				}
			case from != head || to != append(heads, len(l))[at+1] || e != api.OK:
				t.Errorf("%v, %d: %d, %d, error %d", l, head, from, to, e)
			}
		}
	}
}
