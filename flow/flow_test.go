package flow_test

import (
	"math/rand/v2"
	"slices"
	"testing"

	"backstay/api"
	"backstay/flow"
)

// P11.1: what comes behind a place, written out: of a jmp, a jz, each that ends, and others.
func TestP11_1BehindWrittenOut(t *testing.T) {
	for _, c := range []struct {
		l    string
		at   int
		want []int
	}{
		{"ret", 0, nil},
		{"panic", 0, nil},
		{"goexit", 0, nil},
		{"jmp 0", 0, []int{0}},
		{"nop, ret", 0, []int{1}},
		{"nop, ret", 1, nil},
		{"jz 0, ret", 0, []int{0, 1}},
		{"jz 1, ret", 0, []int{1}},
		{"jmp 1, ret", 0, []int{1}},
		{"ret, nop, ret", 0, nil},
		{"panic, nop, ret", 0, nil},
		{"goexit, nop, ret", 0, nil},
		{"jmp 2, nop, ret", 0, []int{2}},
		{"jz 2, nop, ret", 0, []int{1, 2}},
		{"nop, jz 0, ret", 1, []int{0, 2}},
		{"nop, jz 1, ret", 1, []int{1, 2}},
		{"nop, jz 2, ret", 1, []int{2}},
		{"nop, jmp 0, ret", 1, []int{0}},
		{"nop, jmp 1, ret", 1, []int{1}},
		{"nop, nop, jmp 2", 2, []int{2}},
		{"nop, nop, jmp 0", 2, []int{0}},
		{"nop, jz 5, nop, nop, nop, ret, ret", 1, []int{2, 5}},
		{"nop, nop, nop, nop, jz 1, ret", 4, []int{1, 5}},
	} {
		if got, e := flow.Behind(texts(t, c.l), c.at); !slices.Equal(got, c.want) || e != api.OK {
			t.Errorf("%s, %d: %v, error %d; want %v", c.l, c.at, got, e, c.want)
		}
	}
}

// P11.1: behind each instruction comes the next one, unless it ends, and where it goes, whatever else it is.
func TestP11_1BehindEachOp(t *testing.T) {
	for _, s := range []string{"nop", "int 2", "zero P", "load 2", "store 2", "addr 2", "ldp", "stp", "new 3", "get 3 I", "set 3 F", "func 3", "dup", "drop", "swap", "bin add", "un neg", "eq I", "call 3", "calli 3", "defer 3", "deferi 3", "recover", "print", "in"} {
		l := texts(t, "nop, "+s+", nop, ret")
		if got, e := flow.Behind(l, 1); !slices.Equal(got, []int{2}) || e != api.OK {
			t.Errorf("%s: %v, error %d; want 2", s, got, e)
		}
		if got := flow.Reached(l); !slices.Equal(got, []int{0, 1, 2, 3}) {
			t.Errorf("%s: reached %v", s, got)
		}
	}
	for _, s := range []string{"ret", "panic", "goexit"} {
		l := texts(t, "nop, "+s+", nop, ret")
		if got, e := flow.Behind(l, 1); len(got) != 0 || e != api.OK {
			t.Errorf("%s: %v, error %d; want none", s, got, e)
		}
		if got := flow.Reached(l); !slices.Equal(got, []int{0, 1}) {
			t.Errorf("%s: reached %v", s, got)
		}
	}
}

// P11.1: what comes behind a place is told of those that are not reached, too.
func TestP11_1BehindOfNotReached(t *testing.T) {
	l := texts(t, "ret, jz 1, jz 0, jmp 0, nop, ret")
	for at, want := range [][]int{nil, {1, 2}, {0, 3}, {0}, {5}, nil} {
		if got, e := flow.Behind(l, at); !slices.Equal(got, want) || e != api.OK {
			t.Errorf("%d: %v, error %d; want %v", at, got, e, want)
		}
	}
}

// P11.1: what is reached, written out: never behind what ends, unless one goes there; from behind, too.
func TestP11_1ReachedWrittenOut(t *testing.T) {
	for _, c := range []struct {
		l    string
		want []int
	}{
		{"ret", []int{0}},
		{"panic", []int{0}},
		{"goexit", []int{0}},
		{"jmp 0", []int{0}},
		{"nop, ret", []int{0, 1}},
		{"ret, ret", []int{0}},
		{"jmp 1, ret", []int{0, 1}},
		{"jmp 0, ret", []int{0}},
		{"jz 0, ret", []int{0, 1}},
		{"jz 1, ret", []int{0, 1}},
		{"jmp 2, nop, ret", []int{0, 2}},
		{"jz 2, nop, ret", []int{0, 1, 2}},
		{"ret, nop, nop, ret", []int{0}},
		{"ret, jmp 2, jmp 1", []int{0}},
		{"jmp 3, nop, ret, jmp 1", []int{0, 1, 2, 3}},
		{"jmp 4, nop, ret, ret, jz 1, goexit", []int{0, 1, 2, 4, 5}},
		{"jmp 5, ret, jmp 1, jmp 2, ret, jmp 3", []int{0, 1, 2, 3, 5}},
		{"nop, nop, jmp 1, nop, ret", []int{0, 1, 2}},
		{"jz 3, panic, ret, jz 2, panic", []int{0, 1, 2, 3, 4}},
	} {
		if got := flow.Reached(texts(t, c.l)); !slices.Equal(got, c.want) {
			t.Errorf("%s: %v; want %v", c.l, got, c.want)
		}
	}
}

// P11.1: what is ahead of a place, written out: none of 0, one, two, many; the place itself; and never what is not reached.
func TestP11_1AheadWrittenOut(t *testing.T) {
	for _, c := range []struct {
		l    string
		at   int
		want []int
	}{
		{"ret", 0, nil},
		{"jmp 0", 0, []int{0}},
		{"nop, ret", 0, nil},
		{"nop, ret", 1, []int{0}},
		{"jz 0, ret", 0, []int{0}},
		{"jz 0, ret", 1, []int{0}},
		{"jz 1, ret", 1, []int{0}},
		{"jz 2, nop, ret", 1, []int{0}},
		{"jz 2, nop, ret", 2, []int{0, 1}},
		{"jz 4, jz 4, jz 4, nop, ret", 4, []int{0, 1, 2, 3}},
		{"jz 0, jz 0, jz 0, jmp 0", 0, []int{0, 1, 2, 3}},
		{"jz 0, jz 0, jz 0, ret", 3, []int{2}},
		{"jz 1, jz 1, jz 1, jmp 1", 1, []int{0, 1, 2, 3}},
		{"jmp 3, jmp 3, nop, ret", 3, []int{0}},
		{"ret, jmp 0, jmp 0", 0, nil},
		{"jmp 2, jmp 0, jmp 0", 0, []int{2}},
		{"jmp 3, nop, ret, jmp 1", 1, []int{3}},
		{"jmp 3, nop, ret, jmp 1", 2, []int{1}},
	} {
		if got, e := flow.Ahead(texts(t, c.l), c.at); !slices.Equal(got, c.want) || e != api.OK {
			t.Errorf("%s, %d: %v, error %d; want %v", c.l, c.at, got, e, c.want)
		}
	}
}

// P11.1 and P11.2: of places that are not reached nothing is told but what comes behind them.
func TestP11_1NotReached(t *testing.T) {
	for _, c := range []struct {
		l   string
		not []int
	}{
		{"ret, ret", []int{1}},
		{"jmp 0, nop, ret", []int{1, 2}},
		{"jmp 2, nop, ret", []int{1}},
		{"panic, jmp 2, jmp 1", []int{1, 2}},
		{"goexit, jmp 1", []int{1}},
		{"jz 4, ret, jmp 0, jz 3, ret", []int{2, 3}},
		{"nop, ret, jz 0, jz 1, jmp 1", []int{2, 3, 4}},
	} {
		for _, at := range c.not {
			isNotReached(t, texts(t, c.l), at)
			if _, e := flow.Behind(texts(t, c.l), at); e != api.OK {
				t.Errorf("%s: behind %d error %d", c.l, at, e)
			}
		}
	}
}

// P11.1 and P11.2: ErrFlow of places that there are not.
func TestP11_1NoPlaces(t *testing.T) {
	for _, l := range [][]api.Instr{texts(t, "ret"), texts(t, "jmp 0"), texts(t, "jz 3, jz 0, nop, jmp 0"), long(511), long(512), ladder(512)} {
		for _, at := range outside(len(l)) {
			isNoPlace(t, l, at)
		}
		// Those of the memory behind a list are none of its.
		more := append(slices.Clone(l), l...)
		isNoPlace(t, more[:len(l)], len(l))
	}
}

// P11.1 and P11.2: of lists that are no bodies nothing is told, or ErrFlow.
func TestP11_1NoBodies(t *testing.T) {
	for _, l := range nobodies(t) {
		if isBody(l) {
			t.Fatalf("%v is a body", l)
		}
		isNone(t, l)
		for _, at := range outside(len(l)) {
			isNoPlace(t, l, at)
		}
	}
}

// P11.1 and P11.2: all lists of up to four instructions out of some.
func TestP11_1Short(t *testing.T) {
	for _, l := range short(4) {
		holds(t, l)
	}
}

// P11.1 and P11.2: bodies by chance, and each with a last instruction that makes it none.
func TestP11_1ByChance(t *testing.T) {
	for _, l := range append(many(1, 12, 4000), many(2, 60, 200)...) {
		holds(t, l)
		isNone(t, append(slices.Clone(l), api.Instr{}))
	}
}

// P11.1 and P11.2: bodies of the greatest lengths.
func TestP11_1Long(t *testing.T) {
	// With none that ends ahead of the last one all of it is reached.
	whole := byChance(rand.New(rand.NewPCG(11, 0)), 512, 50, 0)
	for _, l := range append(many(3, 512, 4), whole, long(512), ladder(200), diamonds(201)) {
		holds(t, l)
	}
}
