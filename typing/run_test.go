package typing_test

import (
	"math/rand/v2"
	"slices"
	"testing"

	"backstay/api"
	"backstay/typing"
)

// runs holds a run to the letters of the state where it came to, how many were done, and the error.
func runs(t *testing.T, s setting, state []int, l []api.Instr, want string, done int, wanted api.Errno) {
	t.Helper()
	if got, n, e := typing.Run(s.c, s.f, state, l); letters(got) != want || n != done || e != wanted {
		t.Errorf("%v from %s: %s, %d, error %d; want %s, %d, error %d", l, letters(state), letters(got), n, e, want, done, wanted)
	}
}

// stepwise holds a run to its steps, taken one by one.
func stepwise(t *testing.T, s setting, state []int, l []api.Instr) {
	t.Helper()
	there := slices.Clone(state)
	for done, x := range l {
		behind, e := typing.Step(s.c, s.f, there, x)
		if e != api.OK {
			runs(t, s, state, l, letters(there), done, e)
			return
		}
		there = behind
	}
	runs(t, s, state, l, letters(there), len(l), api.OK)
}

// P12.2: runs, written out: to their end, and up to the first error, with the state there.
func TestP12_2RunWrittenOut(t *testing.T) {
	s := setting{context(1, "IP>RF", ">", "FRI>I"), of("IP>RF", "I")}
	for _, c := range []struct {
		from, l, want string
		done          int
		e             api.Errno
	}{
		{"", "nop", "", 1, api.OK},
		{"PR", "nop", "PR", 1, api.OK},
		{"", "int 1, int 2, bin add, print", "", 4, api.OK},
		{"F", "int 1, int 2, bin add, dup", "FII", 4, api.OK},
		{"", "load 0, load 1, call 0, store 3, store 2", "", 5, api.OK},
		{"", "load 0, load 1, call 0, swap, store 2, store 3", "", 6, api.OK},
		{"", "load 0, load 1, call 0, store 2, store 3", "RF", 3, api.ErrTyped},
		{"", "drop, int 1", "", 0, api.ErrHeight},
		{"P", "drop, drop, int 1", "", 1, api.ErrHeight},
		{"", "int 1, drop, int 2, load 5, int 3", "I", 3, api.ErrWhich},
		{"R", "func 2, zero R, int 0, call 2, addr 1", "RI", 4, api.ErrWhich},
		{"R", "func 2, zero R, int 0, call 2, addr 0, swap, stp", "R", 7, api.OK},
		{"RP", "int 1, ret, int 2", "I", 3, api.OK},
		{"RP", "int 1, panic", "", 2, api.OK},
		{"RP", "goexit, drop", "", 1, api.ErrHeight},
		{"RP", "panic, nop", "RP", 0, api.ErrTyped},
		{"I", "jmp 9, jz 400, in, recover", "IIII", 4, api.OK},
		{"F", "new 0, dup, get 3 F, set 9 F, new 1", "F", 4, api.ErrWhich},
		{"F", "dup, calli 1, deferi 1, deferi 1", "", 3, api.ErrHeight},
	} {
		runs(t, s, typed(c.from), texts(t, c.l), c.want, c.done, c.e)
	}
}

// P12.2: a run without steps has no error: the state is as it was, whatever else may not be.
func TestP12_2RunOfNothing(t *testing.T) {
	s := example()
	for _, l := range [][]api.Instr{nil, {}} {
		for _, state := range [][]int{nil, {}, typed("IRFP"), typed(cycle("R", 64))} {
			runs(t, s, state, l, letters(state), 0, api.OK)
			runs(t, setting{api.Context{}, s.f}, state, l, letters(state), 0, api.OK)
			runs(t, setting{s.c, api.Function{}}, state, l, letters(state), 0, api.OK)
		}
		for _, state := range noStates() {
			if got, n, e := typing.Run(s.c, s.f, state, l); !slices.Equal(got, state) || n != 0 || e != api.OK {
				t.Errorf("from %v: %v, %d, error %d", state, got, n, e)
			}
		}
	}
}

// P12.2: what is wrong with the first step is wrong with the run, and the state is as it was.
func TestP12_2RunOfWrong(t *testing.T) {
	s := example()
	state := typed("PI")
	l := texts(t, "nop, drop, nop")
	for _, c := range noContexts() {
		runs(t, setting{c, s.f}, state, l, "PI", 0, api.ErrSignature)
	}
	for _, f := range noFunctions() {
		runs(t, setting{s.c, f}, state, l, "PI", 0, api.ErrFunction)
	}
	for _, x := range noInstructions() {
		for at, want := range []string{"PI", "PI", "P", "P"} {
			runs(t, s, state, slices.Insert(slices.Clone(l), at, x), want, at, api.ErrOpcode)
		}
	}
	for _, other := range noStates() {
		if got, n, e := typing.Run(s.c, s.f, other, l); !slices.Equal(got, other) || n != 0 || e != api.ErrType {
			t.Errorf("from %v: %v, %d, error %d; want ErrType", other, got, n, e)
		}
	}
}

// P12.2: a run goes up to 64 operands, and no farther; and down to none.
func TestP12_2RunOfMost(t *testing.T) {
	s := example()
	up := slices.Repeat(texts(t, "int 7"), 70)
	down := slices.Repeat(texts(t, "drop"), 70)
	for n := range 65 {
		state := typed(cycle("RFP", n))
		full := letters(state) + cycle("I", 64-n)
		runs(t, s, state, up, full, 64-n, api.ErrHeight)
		runs(t, s, state, up[:64-n], full, 64-n, api.OK)
		runs(t, s, state, down, "", n, api.ErrHeight)
		runs(t, s, state, down[:n], "", n, api.OK)
		runs(t, s, state, append(slices.Clone(up[:64-n]), down...), "", 128-n, api.ErrHeight)
	}
}

// P12.2: a long run: of many more steps than a body has.
func TestP12_2RunOfLong(t *testing.T) {
	s := example()
	l := slices.Repeat(texts(t, "int 7, dup, bin mul, call 0, drop"), 20000)
	runs(t, s, typed("F"), l, "F", len(l), api.OK)
	runs(t, s, typed("F"), append(l, texts(t, "int 1, load 2, nop")...), "FI", len(l)+1, api.ErrWhich)
}

// P12.2: all runs of up to three instructions out of some, from some states, are their steps.
func TestP12_2RunOfShort(t *testing.T) {
	s := setting{context(0, "I>R", "R>II"), of("I>R", "P")}
	some := texts(t, "nop, int 1, load 1, load 2, load 3, store 1, dup, drop, swap, call 0, call 1, call 2, deferi 0, func 1, ret, panic, goexit, addr 0")
	all := [][]api.Instr{nil}
	for from := 0; len(all[from]) < 3; from++ {
		for _, x := range some {
			all = append(all, append(slices.Clone(all[from]), x))
		}
	}
	for _, l := range all {
		for _, from := range []string{"", "I", "RF", "PRI", cycle("R", 63), cycle("PI", 64)} {
			stepwise(t, s, typed(from), l)
		}
	}
}

// P12.2: runs by chance are their steps, and what the chapter tells of these.
func TestP12_2RunByChance(t *testing.T) {
	r := rand.New(rand.NewPCG(12, 3))
	for range 2000 {
		s := chance(r)
		state := typed(cycle("IRFP", r.IntN(65)))
		var l []api.Instr
		want, wanted := letters(state), api.OK
		for range 40 {
			x := anyOf(r)
			behind, e := stepOf(s, typed(want), x)
			if e != api.OK && r.IntN(8) > 0 {
				// Most that does not go is left out, so that runs are long.
				continue
			}
			l = append(l, x)
			if wanted = e; e != api.OK {
				break
			}
			want = behind
		}
		done := len(l)
		if wanted != api.OK {
			done--
			l = append(l, anyOf(r), anyOf(r))
		}
		runs(t, s, state, l, want, done, wanted)
		stepwise(t, s, state, l)
	}
}
