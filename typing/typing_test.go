package typing_test

import (
	"fmt"
	"math"
	"slices"
	"testing"

	"backstay/api"
	"backstay/function"
	"backstay/opcode"
	"backstay/typing"
)

// P12.1: a context has 1 to 64 signatures.
func TestP12_1CheckOfSignatures(t *testing.T) {
	for n, want := range map[int]api.Errno{0: api.ErrSignature, 1: api.OK, 2: api.OK, 3: api.OK, 32: api.OK, 63: api.OK, 64: api.OK, 65: api.ErrSignature, 66: api.ErrSignature, 128: api.ErrSignature, 4097: api.ErrSignature} {
		for _, g := range []string{">", "I>R", "IRFP>IRF", cycle("P", 64) + ">", ">" + cycle("F", 64), cycle("IP", 32) + ">" + cycle("RF", 32)} {
			for _, shapes := range []int{0, 1, 64} {
				c := api.Context{Sigs: slices.Repeat([]api.Signature{sig(g)}, n), Shapes: shapes}
				if e := typing.Check(c); e != want {
					t.Errorf("%d of %s, %d shapes: error %d; want %d", n, g, shapes, e, want)
				}
			}
		}
	}
	if e := typing.Check(api.Context{Sigs: []api.Signature{}}); e != api.ErrSignature {
		t.Errorf("an empty list: error %d", e)
	}
}

// P12.1: a context has 0 to 64 shapes.
func TestP12_1CheckOfShapes(t *testing.T) {
	for n, want := range map[int]api.Errno{
		0: api.OK, 1: api.OK, 2: api.OK, 32: api.OK, 63: api.OK, 64: api.OK,
		-1: api.ErrSignature, -2: api.ErrSignature, -64: api.ErrSignature, 65: api.ErrSignature, 66: api.ErrSignature, 256: api.ErrSignature, 1 << 32: api.ErrSignature, math.MinInt: api.ErrSignature, math.MaxInt: api.ErrSignature,
	} {
		for _, sigs := range []int{1, 2, 64} {
			if e := typing.Check(api.Context{Sigs: make([]api.Signature, sigs), Shapes: n}); e != want {
				t.Errorf("%d signatures, %d shapes: error %d; want %d", sigs, n, e, want)
			}
		}
	}
}

// P12.1: one signature that may not be is enough, wherever it stands.
func TestP12_1CheckOfWrongSignatures(t *testing.T) {
	for _, g := range noSignatures() {
		for _, n := range []int{1, 2, 3, 64} {
			for at := range n {
				c := api.Context{Sigs: slices.Repeat([]api.Signature{sig("I>R")}, n)}
				c.Sigs[at] = g
				if e := typing.Check(c); e != api.ErrSignature {
					t.Fatalf("%v at %d of %d: error %d; want ErrSignature", g, at, n, e)
				}
			}
		}
	}
}

// P12.1: contexts that may be, and such as may not.
func TestP12_1Check(t *testing.T) {
	for i, s := range settings() {
		if e := typing.Check(s.c); e != api.OK {
			t.Errorf("setting %d: error %d", i, e)
		}
	}
	for i, c := range noContexts() {
		if e := typing.Check(c); e != api.ErrSignature {
			t.Errorf("context %d: error %d; want ErrSignature", i, e)
		}
	}
}

// needs holds what Need tells to letters, or to an error with nothing beside it.
func needs(t *testing.T, s setting, x api.Instr, takes, leaves string, want api.Errno) {
	t.Helper()
	gotTakes, gotLeaves, e := typing.Need(s.c, s.f, x)
	if letters(gotTakes) != takes || letters(gotLeaves) != leaves || e != want {
		t.Errorf("%s (%v): %v : %v, error %d; want %s : %s, error %d", opcode.Show(x), x, gotTakes, gotLeaves, e, takes, leaves, want)
	}
}

// P12.1: the chapter's examples.
func TestP12_1Examples(t *testing.T) {
	s := example()
	needs(t, s, text(t, "load 1"), "", "R", api.OK)
	needs(t, s, text(t, "load 2"), "", "", api.ErrWhich)
	needs(t, s, text(t, "call 0"), "I", "R", api.OK)
}

// P12.1: what each instruction takes and leaves, written out, of a function with slots I P R F and a local I, in a context of three shapes and three signatures.
func TestP12_1NeedWrittenOut(t *testing.T) {
	s := setting{context(3, "IP>RF", ">", "FRI>I"), of("IP>RF", "I")}
	for x, want := range map[string][2]string{
		"nop":      {"", ""},
		"int 7":    {"", "I"},
		"int -7":   {"", "I"},
		"zero I":   {"", "I"},
		"zero R":   {"", "R"},
		"zero F":   {"", "F"},
		"zero P":   {"", "P"},
		"load 0":   {"", "I"},
		"load 1":   {"", "P"},
		"load 2":   {"", "R"},
		"load 3":   {"", "F"},
		"load 4":   {"", "I"},
		"store 0":  {"I", ""},
		"store 1":  {"P", ""},
		"store 2":  {"R", ""},
		"store 3":  {"F", ""},
		"store 4":  {"I", ""},
		"addr 0":   {"", "P"},
		"addr 4":   {"", "P"},
		"ldp":      {"P", "I"},
		"stp":      {"PI", ""},
		"new 0":    {"", "R"},
		"new 2":    {"", "R"},
		"get 15 I": {"R", "I"},
		"get 0 R":  {"R", "R"},
		"get 0 F":  {"R", "F"},
		"set 15 I": {"RI", ""},
		"set 0 R":  {"RR", ""},
		"set 0 F":  {"RF", ""},
		"func 0":   {"", "F"},
		"func 2":   {"", "F"},
		"bin add":  {"II", "I"},
		"bin lt":   {"II", "I"},
		"un neg":   {"I", "I"},
		"un u32":   {"I", "I"},
		"eq I":     {"II", "I"},
		"eq R":     {"RR", "I"},
		"eq F":     {"FF", "I"},
		"eq P":     {"PP", "I"},
		"jmp 0":    {"", ""},
		"jmp 511":  {"", ""},
		"jz 0":     {"I", ""},
		"jz 511":   {"I", ""},
		"call 0":   {"IP", "RF"},
		"call 1":   {"", ""},
		"call 2":   {"FRI", "I"},
		"calli 0":  {"FIP", "RF"},
		"calli 1":  {"F", ""},
		"calli 2":  {"FFRI", "I"},
		"defer 0":  {"IP", ""},
		"defer 1":  {"", ""},
		"defer 2":  {"FRI", ""},
		"deferi 0": {"FIP", ""},
		"deferi 1": {"F", ""},
		"deferi 2": {"FFRI", ""},
		"ret":      {"", ""},
		"panic":    {"I", ""},
		"recover":  {"", "II"},
		"goexit":   {"", ""},
		"print":    {"I", ""},
		"in":       {"", "II"},
	} {
		needs(t, s, text(t, x), want[0], want[1], api.OK)
	}
	for _, x := range []string{"load 5", "load 63", "store 5", "store 63", "addr 1", "addr 2", "addr 3", "addr 5", "addr 63", "new 3", "new 63", "func 3", "func 63", "call 3", "call 63", "calli 3", "calli 63", "defer 3", "defer 63", "deferi 3", "deferi 63"} {
		needs(t, s, text(t, x), "", "", api.ErrWhich)
	}
	for _, x := range []string{"dup", "drop", "swap"} {
		needs(t, s, text(t, x), "", "", api.ErrDepends)
	}
}

// P12.1: each instruction, in settings without anything and with all that there may be.
func TestP12_1Need(t *testing.T) {
	for _, s := range settings() {
		for _, x := range instructions() {
			takes, leaves, e := needOf(s, x)
			needs(t, s, x, takes, leaves, e)
		}
	}
}

// P12.1: the last slot, shape and function that there is, the first that there is not, and negative ones.
func TestP12_1NeedOfBounds(t *testing.T) {
	for _, n := range []int{1, 2, 7, 63, 64} {
		s := setting{context(n, slices.Repeat([]string{"I>R"}, n)...), of(cycle("I", n)+">", "")}
		for x, want := range map[int][2]string{
			api.OpLoad: {"", "I"}, api.OpStore: {"I", ""}, api.OpAddr: {"", "P"}, api.OpNew: {"", "R"}, api.OpFunc: {"", "F"},
			api.OpCall: {"I", "R"}, api.OpCalli: {"FI", "R"}, api.OpDefer: {"I", ""}, api.OpDeferi: {"FI", ""},
		} {
			needs(t, s, api.Instr{Op: x}, want[0], want[1], api.OK)
			needs(t, s, api.Instr{Op: x, A: int64(n - 1)}, want[0], want[1], api.OK)
			beyond := api.ErrWhich
			if n == 64 {
				beyond = api.ErrOpcode
			}
			needs(t, s, api.Instr{Op: x, A: int64(n)}, "", "", beyond)
			for _, a := range []int64{-1, -2, -64, 64, 65, 256, 1 << 32, -1 << 32, math.MinInt64, math.MaxInt64} {
				needs(t, s, api.Instr{Op: x, A: a}, "", "", api.ErrOpcode)
			}
			needs(t, s, api.Instr{Op: x, B: 1}, "", "", api.ErrOpcode)
		}
	}
}

// P12.1: where there is no slot, or no shape, there is not even the first one.
func TestP12_1NeedOfNone(t *testing.T) {
	s := setting{context(0, ">"), of(">", "")}
	for _, x := range []string{"load 0", "store 0", "addr 0", "new 0", "func 1", "call 1", "calli 1", "defer 1", "deferi 1"} {
		needs(t, s, text(t, x), "", "", api.ErrWhich)
	}
}

// P12.1: what is told of slots, shapes and functions hangs on no other number than theirs.
func TestP12_1NeedOfEachAlone(t *testing.T) {
	slots := setting{context(0, ">"), of("IRF>I", "PI")}
	shapes := setting{context(5, ">"), of(">", "")}
	sigs := setting{context(0, ">", ">", ">", ">", "P>I"), of(">", "")}
	for _, c := range []struct {
		s             setting
		x             string
		takes, leaves string
		e             api.Errno
	}{
		{slots, "load 4", "", "P", api.OK}, {shapes, "load 4", "", "", api.ErrWhich}, {sigs, "load 4", "", "", api.ErrWhich},
		{slots, "store 4", "P", "", api.OK}, {shapes, "store 4", "", "", api.ErrWhich}, {sigs, "store 4", "", "", api.ErrWhich},
		{slots, "addr 5", "", "P", api.OK}, {slots, "addr 4", "", "", api.ErrWhich}, {shapes, "addr 0", "", "", api.ErrWhich}, {sigs, "addr 0", "", "", api.ErrWhich},
		{slots, "new 4", "", "", api.ErrWhich}, {shapes, "new 4", "", "R", api.OK}, {sigs, "new 4", "", "", api.ErrWhich},
		{slots, "func 4", "", "", api.ErrWhich}, {shapes, "func 4", "", "", api.ErrWhich}, {sigs, "func 4", "", "F", api.OK},
		{slots, "call 4", "", "", api.ErrWhich}, {shapes, "call 4", "", "", api.ErrWhich}, {sigs, "call 4", "P", "I", api.OK},
		{slots, "deferi 4", "", "", api.ErrWhich}, {shapes, "deferi 4", "", "", api.ErrWhich}, {sigs, "deferi 4", "FP", "", api.OK},
		{slots, "get 15 R", "R", "R", api.OK}, {shapes, "set 15 R", "RR", "", api.OK}, {sigs, "jz 400", "I", "", api.OK},
	} {
		needs(t, c.s, text(t, c.x), c.takes, c.leaves, c.e)
	}
}

// P12.1: addr of each slot: of type I alone, be it an argument, a result or a local.
func TestP12_1NeedOfAddr(t *testing.T) {
	for _, kinds := range [][2]string{{"IRFP>", ""}, {">IRF", ""}, {">", "IRFP"}, {"PFRI>FRI", "PPII"}, {"RRR>R", "F"}, {"IIII>II", "I"}} {
		s := setting{context(0, ">"), of(kinds[0], kinds[1])}
		for at, letter := range slotsOf(s.f) {
			x := api.Instr{Op: api.OpAddr, A: int64(at)}
			if letter == 'I' {
				needs(t, s, x, "", "P", api.OK)
			} else {
				needs(t, s, x, "", "", api.ErrWhich)
			}
		}
	}
}

// P12.1: a signature of 64 arguments is taken whole, with the function, too; one of 64 results is left whole.
func TestP12_1NeedOfGreatest(t *testing.T) {
	long, held := cycle("IRFP", 64), cycle("IRF", 64)
	s := setting{context(0, long+">", ">"+held), of(">", "")}
	needs(t, s, text(t, "call 0"), long, "", api.OK)
	needs(t, s, text(t, "calli 0"), "F"+long, "", api.OK)
	needs(t, s, text(t, "defer 0"), long, "", api.OK)
	needs(t, s, text(t, "deferi 0"), "F"+long, "", api.OK)
	needs(t, s, text(t, "call 1"), "", held, api.OK)
	needs(t, s, text(t, "calli 1"), "F", held, api.OK)
	needs(t, s, text(t, "defer 1"), "", "", api.OK)
	needs(t, s, text(t, "deferi 1"), "F", "", api.OK)
}

// P12.1: a function's own signature and its context's need not be the same, nor need it be in there.
func TestP12_1NeedOfStranger(t *testing.T) {
	s := setting{context(0, "PP>F"), of("IR>", "F")}
	needs(t, s, text(t, "call 0"), "PP", "F", api.OK)
	needs(t, s, text(t, "load 1"), "", "R", api.OK)
	needs(t, s, text(t, "load 2"), "", "F", api.OK)
}

// P12.1: contexts, functions and instructions that may not be.
func TestP12_1NeedOfWrong(t *testing.T) {
	s := example()
	for _, c := range noContexts() {
		for _, x := range []string{"nop", "dup", "int 1", "call 0", "load 2"} {
			needs(t, setting{c, s.f}, text(t, x), "", "", api.ErrSignature)
		}
	}
	for _, f := range noFunctions() {
		for _, x := range []string{"nop", "dup", "int 1", "call 0", "call 1"} {
			needs(t, setting{s.c, f}, text(t, x), "", "", api.ErrFunction)
		}
	}
	for _, x := range noInstructions() {
		needs(t, s, x, "", "", api.ErrOpcode)
		needs(t, most(), x, "", "", api.ErrOpcode)
	}
}

// P12.1: of several errors the first one is told.
func TestP12_1NeedOrder(t *testing.T) {
	for _, c := range append(noContexts()[:4:4], example().c) {
		for _, f := range append(noFunctions(), example().f) {
			for _, x := range append(noInstructions(), text(t, "load 9"), text(t, "call 9"), text(t, "swap"), text(t, "nop")) {
				s := setting{c, f}
				takes, leaves, e := needOf(s, x)
				needs(t, s, x, takes, leaves, e)
			}
		}
	}
}

// P12.3: states are the same, if they have as many operands, of the same types.
func TestP12_3Meet(t *testing.T) {
	all := append(states(3), typed(cycle("IRFP", 64)), typed(cycle("IRFP", 63)), typed(cycle("IRFP", 63)+"I"), typed("R"+cycle("RFPI", 63)))
	for _, a := range all {
		for _, b := range all {
			want := api.OK
			switch {
			case len(a) != len(b):
				want = api.ErrHeight
			case letters(a) != letters(b):
				want = api.ErrTyped
			}
			if e := typing.Meet(a, b); e != want {
				t.Errorf("%v, %v: error %d; want %d", a, b, e, want)
			}
		}
	}
}

// P12.3: two that differ in one place, the first, the last or between; and in their number alone.
func TestP12_3MeetOfOne(t *testing.T) {
	for _, n := range []int{1, 2, 5, 64} {
		for at := range n {
			a := typed(cycle("IRFP", n))
			b := slices.Clone(a)
			if e := typing.Meet(a, b); e != api.OK {
				t.Errorf("%v: error %d", a, e)
			}
			b[at] = 1 + b[at]%4
			if e := typing.Meet(a, b); e != api.ErrTyped {
				t.Errorf("%v, %v: error %d; want ErrTyped", a, b, e)
			}
			if e := typing.Meet(a, b[:at]); e != api.ErrHeight {
				t.Errorf("%v, %v: error %d; want ErrHeight", a, b[:at], e)
			}
			if e := typing.Meet(b[at:][:n-at-1], a); e != api.ErrHeight {
				t.Errorf("%v, %v: error %d; want ErrHeight", b[at:][:n-at-1], a, e)
			}
		}
	}
	if e := typing.Meet(nil, []int{}); e != api.OK {
		t.Errorf("none, and an empty one: error %d", e)
	}
	if e := typing.Meet([]int{}, nil); e != api.OK {
		t.Errorf("an empty one, and none: error %d", e)
	}
}

// P12.3: lists are held against each other as they stand, whether they are states or not.
func TestP12_3MeetOfNoStates(t *testing.T) {
	for _, l := range noStates() {
		if e := typing.Meet(l, slices.Clone(l)); e != api.OK {
			t.Errorf("%v and itself: error %d", l, e)
		}
		if e := typing.Meet(l, append(slices.Clone(l), 1)); e != api.ErrHeight {
			t.Errorf("%v and one more: error %d", l, e)
		}
		other := slices.Clone(l)
		other[len(l)-1] = 3
		if e := typing.Meet(l, other); e != api.ErrTyped && !slices.Equal(l, other) {
			t.Errorf("%v, %v: error %d", l, other, e)
		}
	}
}

// P12.3: the context has the functions' signatures in their order, and so many shapes, whatever they are.
func TestP12_3Of(t *testing.T) {
	lists := [][]api.Function{
		nil, {}, {of(">", "")}, {of("I>R", "P"), of(">", ""), of("P>F", "II"), of("I>R", "")},
		{of(cycle("IRFP", 64)+">", ""), of(">"+cycle("F", 64), "")}, noFunctions(), slices.Repeat([]api.Function{of("I>", "")}, 64), slices.Repeat([]api.Function{{}}, 100),
	}
	for _, g := range noSignatures() {
		lists = append(lists, []api.Function{of(">", ""), {Sig: g}})
	}
	for _, l := range lists {
		for _, n := range []int{0, 1, 3, 64, 65, -1, math.MinInt, math.MaxInt} {
			c := typing.Of(l, n)
			if c.Shapes != n || len(c.Sigs) != len(l) {
				t.Fatalf("%v, %d: %v", l, n, c)
			}
			for i, f := range l {
				if fmt.Sprint(c.Sigs[i].Args, c.Sigs[i].Results) != fmt.Sprint(f.Sig.Args, f.Sig.Results) {
					t.Errorf("%v, %d: %v", l, n, c)
				}
			}
		}
	}
}

// P12.3: the context of functions that may be may be, if there are some, but not too many.
func TestP12_3OfFunctions(t *testing.T) {
	f := of("IP>R", "F")
	if e := function.Check(f); e != api.OK {
		t.Fatal(e)
	}
	for n, want := range map[int]api.Errno{0: api.ErrSignature, 1: api.OK, 64: api.OK, 65: api.ErrSignature} {
		if e := typing.Check(typing.Of(slices.Repeat([]api.Function{f}, n), 2)); e != want {
			t.Errorf("%d functions: error %d; want %d", n, e, want)
		}
	}
}
