package typing_test

import (
	"math/rand/v2"
	"slices"
	"strings"
	"testing"

	"backstay/api"
	"backstay/opcode"
	"backstay/typing"
)

// steps holds a step to the letters of the state behind it, or to an error with nothing beside it.
func steps(t *testing.T, s setting, state []int, x api.Instr, want string, wanted api.Errno) {
	t.Helper()
	if got, e := typing.Step(s.c, s.f, state, x); letters(got) != want || e != wanted {
		t.Errorf("%s (%v) from %s %v: %v, error %d; want %s, error %d", opcode.Show(x), x, letters(state), state, got, e, want, wanted)
	}
}

// follows holds a step to what the chapter tells of it.
func follows(t *testing.T, s setting, state []int, x api.Instr) {
	t.Helper()
	want, e := stepOf(s, state, x)
	steps(t, s, state, x, want, e)
}

// P12.2: the chapter's examples.
func TestP12_2Examples(t *testing.T) {
	s := example()
	steps(t, s, typed("PI"), text(t, "swap"), "IP", api.OK)
	steps(t, s, typed("I"), text(t, "call 0"), "R", api.OK)
	steps(t, s, typed("R"), text(t, "call 0"), "", api.ErrTyped)
	steps(t, s, nil, text(t, "drop"), "", api.ErrHeight)
	steps(t, s, typed("PI"), text(t, "ret"), "", api.OK)
}

// P12.2: steps, written out, of a function with slots I P R F and a local I, in a context of one shape and three signatures.
func TestP12_2StepWrittenOut(t *testing.T) {
	s := setting{context(1, "IP>RF", ">", "FRI>I"), of("IP>RF", "I")}
	for _, c := range []struct{ from, x, want string }{
		{"", "nop", ""},
		{"RPF", "nop", "RPF"},
		{"", "int 5", "I"},
		{"R", "int 5", "RI"},
		{"F", "zero P", "FP"},
		{"P", "load 0", "PI"},
		{"P", "load 1", "PP"},
		{"P", "load 2", "PR"},
		{"P", "load 3", "PF"},
		{"RI", "store 0", "R"},
		{"RP", "store 1", "R"},
		{"RR", "store 2", "R"},
		{"RF", "store 3", "R"},
		{"RI", "store 4", "R"},
		{"F", "addr 0", "FP"},
		{"F", "addr 4", "FP"},
		{"FP", "ldp", "FI"},
		{"RPI", "stp", "R"},
		{"I", "new 0", "IR"},
		{"IR", "get 3 F", "IF"},
		{"IRF", "set 3 F", "I"},
		{"I", "func 1", "IF"},
		{"", "func 2", "F"},
		{"I", "dup", "II"},
		{"IP", "dup", "IPP"},
		{"IP", "drop", "I"},
		{"I", "drop", ""},
		{"RFP", "swap", "RPF"},
		{"II", "swap", "II"},
		{"FII", "bin add", "FI"},
		{"FI", "un neg", "FI"},
		{"IRR", "eq R", "II"},
		{"IPP", "eq P", "II"},
		{"PR", "jmp 9", "PR"},
		{"PI", "jz 9", "P"},
		{"RIP", "call 0", "RRF"},
		{"RIP", "call 1", "RIP"},
		{"RFRI", "call 2", "RI"},
		{"RFIP", "calli 0", "RRF"},
		{"RF", "calli 1", "R"},
		{"RFFRI", "calli 2", "RI"},
		{"RIP", "defer 0", "R"},
		{"RIP", "defer 1", "RIP"},
		{"RFRI", "defer 2", "R"},
		{"RFIP", "deferi 0", "R"},
		{"RF", "deferi 1", "R"},
		{"RFFRI", "deferi 2", "R"},
		{"", "ret", ""},
		{"RFP", "ret", ""},
		{"I", "panic", ""},
		{"RFPI", "panic", ""},
		{"", "goexit", ""},
		{"RFPI", "goexit", ""},
		{"R", "recover", "RII"},
		{"RI", "print", "R"},
		{"R", "in", "RII"},
	} {
		steps(t, s, typed(c.from), text(t, c.x), c.want, api.OK)
	}
}

// P12.2: steps that do not go, written out: too few, of another type, too many then.
func TestP12_2StepWrong(t *testing.T) {
	s := setting{context(1, "IP>RF", ">", "FRI>I"), of("IP>RF", "I")}
	for _, c := range []struct {
		from, x string
		want    api.Errno
	}{
		{"", "store 0", api.ErrHeight},
		{"", "ldp", api.ErrHeight},
		{"", "stp", api.ErrHeight},
		{"I", "stp", api.ErrHeight},
		{"P", "stp", api.ErrHeight},
		{"IP", "stp", api.ErrTyped},
		{"PP", "stp", api.ErrTyped},
		{"II", "stp", api.ErrTyped},
		{"PIR", "stp", api.ErrTyped},
		{"", "dup", api.ErrHeight},
		{"", "drop", api.ErrHeight},
		{"", "swap", api.ErrHeight},
		{"F", "swap", api.ErrHeight},
		{"R", "set 0 F", api.ErrHeight},
		{"F", "set 0 F", api.ErrHeight},
		{"FR", "set 0 F", api.ErrTyped},
		{"RR", "set 0 F", api.ErrTyped},
		{"R", "eq R", api.ErrHeight},
		{"RF", "eq R", api.ErrTyped},
		{"FR", "eq R", api.ErrTyped},
		{"R", "call 0", api.ErrHeight},
		{"PI", "call 0", api.ErrTyped},
		{"IPI", "call 0", api.ErrTyped},
		{"IP", "calli 0", api.ErrHeight},
		{"IIP", "calli 0", api.ErrTyped},
		{"IPF", "calli 0", api.ErrTyped},
		{"P", "defer 0", api.ErrHeight},
		{"IP", "deferi 0", api.ErrHeight},
		{"RIP", "deferi 0", api.ErrTyped},
		{"IPF", "deferi 0", api.ErrTyped},
		{"", "panic", api.ErrHeight},
		{"R", "panic", api.ErrTyped},
		{"IIIP", "panic", api.ErrTyped},
		{"", "jz 0", api.ErrHeight},
		{"P", "jz 0", api.ErrTyped},
		{"", "print", api.ErrHeight},
		{"F", "print", api.ErrTyped},
	} {
		steps(t, s, typed(c.from), text(t, c.x), "", c.want)
	}
}

// P12.2: each instruction from each state of up to four operands, in each setting.
func TestP12_2StepOfShort(t *testing.T) {
	all := states(4)
	for i, s := range settings() {
		for j, x := range instructions() {
			for k, state := range all {
				if len(state) < 3 || (i+j+k)%5 == 0 {
					follows(t, s, state, x)
				}
			}
		}
	}
}

// P12.2: each instruction from a state just of what it takes, from one with something below, from one operand too few, and with one, or all, of another type.
func TestP12_2StepOfWhatIsTaken(t *testing.T) {
	for _, s := range settings() {
		for _, x := range instructions() {
			takes, leaves, e := needOf(s, x)
			if e != api.OK || len(takes) > 64 {
				continue
			}
			ends := slices.Contains([]int{api.OpRet, api.OpPanic, api.OpGoexit}, x.Op)
			if ends {
				leaves = ""
			}
			steps(t, s, typed(takes), x, leaves, api.OK)
			if below := "RPFI"; len(takes)+4 <= 64 && len(leaves)+4 <= 64 && !ends {
				steps(t, s, typed(below+takes), x, below+leaves, api.OK)
			}
			if takes == "" {
				continue
			}
			steps(t, s, typed(takes[1:]), x, "", api.ErrHeight)
			steps(t, s, typed(takes[:len(takes)-1]), x, "", api.ErrHeight)
			steps(t, s, nil, x, "", api.ErrHeight)
			for _, at := range []int{0, len(takes) / 2, len(takes) - 1} {
				for by := 1; by < 4; by++ {
					other := typed(takes)
					other[at] = 1 + (other[at]-1+by)%4
					steps(t, s, other, x, "", api.ErrTyped)
					other[0] = 1 + other[0]%4
					follows(t, s, other, x)
				}
			}
		}
	}
}

// P12.2: what takes, and finds several of another type, is ErrTyped; what finds too few is ErrHeight, whatever they are.
func TestP12_2StepOfSeveralWrong(t *testing.T) {
	s := most()
	for _, x := range instructions() {
		takes, _, e := needOf(s, x)
		if n := len(takes); e == api.OK && n > 0 && n <= 64 {
			other := typed(takes)
			for at := range other {
				other[at] = 1 + other[at]%4
			}
			steps(t, s, other, x, "", api.ErrTyped)
			steps(t, s, other[1:], x, "", api.ErrHeight)
			steps(t, s, other[:n-1], x, "", api.ErrHeight)
		}
	}
}

// P12.2: from a state of 64 nothing may be left that was not taken.
func TestP12_2StepOfMost(t *testing.T) {
	s := most()
	for _, x := range instructions() {
		for _, last := range []string{"I", "R", "F", "P", "II", "RR", "PI", "RI", "RF", "FF", "PP", "IRFP"} {
			for _, n := range []int{60, 61, 62, 63, 64} {
				follows(t, s, typed(cycle("IRFP", n-len(last))+last), x)
			}
		}
	}
	for _, x := range []string{"int 1", "zero R", "load 0", "addr 0", "new 0", "func 0", "dup", "recover", "in", "call 2"} {
		steps(t, s, typed(cycle("I", 64)), text(t, x), "", api.ErrHeight)
	}
	for _, x := range []string{"int 1", "zero I", "load 0", "dup"} {
		steps(t, s, typed(cycle("I", 63)), text(t, x), cycle("I", 64), api.OK)
	}
	for _, x := range []string{"recover", "in"} {
		steps(t, s, typed(cycle("I", 63)), text(t, x), "", api.ErrHeight)
		steps(t, s, typed(cycle("I", 62)), text(t, x), cycle("I", 64), api.OK)
	}
	for _, x := range []string{"nop", "jmp 3", "swap", "un neg"} {
		steps(t, s, typed(cycle("I", 64)), text(t, x), cycle("I", 64), api.OK)
	}
}

// P12.2: calls of the greatest signatures: what is taken makes room for what is left.
func TestP12_2StepOfGreatest(t *testing.T) {
	long, held := cycle("IRFP", 64), cycle("IRF", 64)
	s := setting{context(0, long+">", ">"+held, cycle("P", 32)+">"+cycle("R", 32), "I>"+held[:63], "I>FF"), of(">", "")}
	for _, c := range []struct {
		from, x, want string
		e             api.Errno
	}{
		{long, "call 0", "", api.OK},
		{long, "defer 0", "", api.OK},
		{long[1:], "call 0", "", api.ErrHeight},
		{long, "calli 0", "", api.ErrHeight},
		{long, "deferi 0", "", api.ErrHeight},
		{"I" + long[1:63] + "I", "call 0", "", api.ErrTyped},
		{"R" + long[1:], "defer 0", "", api.ErrTyped},
		{"", "call 1", held, api.OK},
		{"I", "call 1", "", api.ErrHeight},
		{"F", "calli 1", held, api.OK},
		{"FF", "calli 1", "", api.ErrHeight},
		{"", "defer 1", "", api.OK},
		{"FF", "deferi 1", "F", api.OK},
		{cycle("I", 32) + cycle("P", 32), "call 2", cycle("I", 32) + cycle("R", 32), api.OK},
		{cycle("I", 31) + "F" + cycle("P", 32), "calli 2", cycle("I", 31) + cycle("R", 32), api.OK},
		{cycle("I", 31) + "R" + cycle("P", 32), "calli 2", "", api.ErrTyped},
		{cycle("P", 63), "calli 2", "", api.ErrTyped},
		{"I", "call 3", held[:63], api.OK},
		{"RI", "call 3", "R" + held[:63], api.OK},
		{"RRI", "call 3", "", api.ErrHeight},
		{"RRR", "call 3", "", api.ErrTyped},
		{cycle("I", 64), "call 4", "", api.ErrHeight},
		{cycle("I", 63), "call 4", cycle("I", 62) + "FF", api.OK},
		{cycle("P", 64), "call 4", "", api.ErrTyped},
		{cycle("FI", 64), "calli 4", cycle("FI", 62) + "FF", api.OK},
	} {
		steps(t, s, typed(c.from), text(t, c.x), c.want, c.e)
	}
}

// P12.2: dup, drop and swap from 0, 1, 2 and 64 operands, of each type.
func TestP12_2StepOfDepending(t *testing.T) {
	s := example()
	full := cycle("IRFP", 62)
	for _, a := range []string{"I", "R", "F", "P"} {
		steps(t, s, typed(a), text(t, "dup"), a+a, api.OK)
		steps(t, s, typed(a), text(t, "drop"), "", api.OK)
		steps(t, s, typed(a), text(t, "swap"), "", api.ErrHeight)
		steps(t, s, typed(full+a), text(t, "dup"), full+a+a, api.OK)
		for _, b := range []string{"I", "R", "F", "P"} {
			steps(t, s, typed(a+b), text(t, "dup"), a+b+b, api.OK)
			steps(t, s, typed(a+b), text(t, "drop"), a, api.OK)
			steps(t, s, typed(a+b), text(t, "swap"), b+a, api.OK)
			steps(t, s, typed(full+a+b), text(t, "dup"), "", api.ErrHeight)
			steps(t, s, typed(full+a+b), text(t, "drop"), full+a, api.OK)
			steps(t, s, typed(full+a+b), text(t, "swap"), full+b+a, api.OK)
		}
	}
	for _, x := range []string{"dup", "drop", "swap"} {
		steps(t, s, nil, text(t, x), "", api.ErrHeight)
		steps(t, s, []int{}, text(t, x), "", api.ErrHeight)
	}
}

// P12.2: behind ret, panic and goexit there are no operands, however many there were.
func TestP12_2StepOfEnds(t *testing.T) {
	s := example()
	for n := range 65 {
		for _, of := range []string{"IRFP", "RFPI", "I", "P"} {
			state := typed(cycle(of, n))
			steps(t, s, state, text(t, "ret"), "", api.OK)
			steps(t, s, state, text(t, "goexit"), "", api.OK)
			switch last := strings.TrimPrefix(letters(state), cycle(of, max(n-1, 0))); last {
			case "I":
				steps(t, s, state, text(t, "panic"), "", api.OK)
			case "":
				steps(t, s, state, text(t, "panic"), "", api.ErrHeight)
			default:
				steps(t, s, state, text(t, "panic"), "", api.ErrTyped)
			}
		}
	}
}

// P12.2: what is no state is ErrType, whatever the instruction.
func TestP12_2StepOfNoState(t *testing.T) {
	for _, s := range []setting{example(), most()} {
		for _, state := range noStates() {
			for _, x := range []string{"nop", "int 1", "dup", "drop", "swap", "ret", "goexit", "panic", "print", "call 0", "load 0", "jmp 0", "load 63", "new 63", "func 63"} {
				steps(t, s, state, text(t, x), "", api.ErrType)
			}
		}
	}
	for _, n := range []int{0, 1, 63, 64} {
		steps(t, example(), typed(cycle("RFPI", n)), text(t, "nop"), cycle("RFPI", n), api.OK)
	}
}

// P12.2: contexts, functions and instructions that may not be.
func TestP12_2StepOfWrong(t *testing.T) {
	s := example()
	for _, c := range noContexts() {
		steps(t, setting{c, s.f}, nil, text(t, "nop"), "", api.ErrSignature)
		steps(t, setting{c, s.f}, typed("IRFP"), text(t, "ret"), "", api.ErrSignature)
	}
	for _, f := range noFunctions() {
		steps(t, setting{s.c, f}, nil, text(t, "nop"), "", api.ErrFunction)
		steps(t, setting{s.c, f}, typed("IRFP"), text(t, "ret"), "", api.ErrFunction)
	}
	for _, x := range noInstructions() {
		for _, state := range [][]int{nil, typed("IRFP"), typed(cycle("I", 64))} {
			steps(t, s, state, x, "", api.ErrOpcode)
		}
	}
}

// P12.2: of several errors the first one is told: of the context, the function, the instruction, the state, what is named, what is there.
func TestP12_2StepOrder(t *testing.T) {
	var xs []api.Instr
	for _, x := range []string{"load 9", "addr 1", "new 0", "call 9", "swap", "dup", "print", "stp", "call 0", "int 1", "ret"} {
		xs = append(xs, text(t, x))
	}
	xs = append(xs, api.Instr{Op: api.OpLoad, A: 64}, api.Instr{Op: api.OpCall, A: -1}, api.Instr{Op: 30})
	for _, c := range []api.Context{{}, {Sigs: make([]api.Signature, 65)}, {Sigs: []api.Signature{sig(">P")}}, {Sigs: []api.Signature{sig(">")}, Shapes: 65}, example().c} {
		for _, f := range append(noFunctions(), example().f) {
			for _, x := range xs {
				for _, state := range [][]int{nil, {0}, {1, 9}, typed("P"), typed("R"), typed("IRF"), typed(cycle("R", 64)), typed(cycle("I", 65)), append(typed(cycle("R", 63)), 7)} {
					follows(t, setting{c, f}, state, x)
				}
			}
		}
	}
}

// P12.2: too few is told ahead of another type, and another type ahead of too many.
func TestP12_2StepOrderOfHeights(t *testing.T) {
	held := cycle("IRF", 63)
	s := setting{context(0, "IP>", "R>"+held), of(">", "")}
	steps(t, s, typed("R"), text(t, "call 0"), "", api.ErrHeight)
	steps(t, s, typed("RR"), text(t, "call 0"), "", api.ErrTyped)
	steps(t, s, typed("PPP"), text(t, "call 1"), "", api.ErrTyped)
	steps(t, s, typed("PPR"), text(t, "call 1"), "", api.ErrHeight)
	steps(t, s, typed("PR"), text(t, "call 1"), "P"+held, api.OK)
	steps(t, s, typed("R"), text(t, "call 1"), held, api.OK)
	steps(t, s, nil, text(t, "call 1"), "", api.ErrHeight)
}

// chance is a setting by chance, of few or many signatures, shapes and slots.
func chance(r *rand.Rand) setting {
	some := func(of string, most int) string {
		var s strings.Builder
		for range r.IntN(most + 1) {
			s.WriteByte(of[r.IntN(len(of))])
		}
		return s.String()
	}
	s := setting{api.Context{Shapes: r.IntN(65)}, of(some("IRFP", 8)+">"+some("IRF", 8), some("IRFP", 8))}
	for range 1 + r.IntN(10) {
		s.c.Sigs = append(s.c.Sigs, sig(some("IRFP", 4)+">"+some("IRF", 4)))
	}
	return s
}

// anyOf is an instruction that may be, by chance; it need not refer to what there is.
func anyOf(r *rand.Rand) api.Instr {
	for {
		x := api.Instr{Op: r.IntN(api.Ops), A: int64(r.IntN(1 + r.IntN(64)))}
		if _, b := opcode.Kinds(x.Op); b != api.OperandNone {
			x.B = int64(1 + r.IntN(3))
		}
		if opcode.Check(x) == api.OK {
			return x
		}
	}
}

// P12.1 and P12.2: settings, states and instructions by chance; most states have what is taken on top, some all but one of it.
func TestP12_2StepByChance(t *testing.T) {
	r := rand.New(rand.NewPCG(12, 2))
	for range 3000 {
		s := chance(r)
		for range 10 {
			x := anyOf(r)
			takes, leaves, e := needOf(s, x)
			needs(t, s, x, takes, leaves, e)
			var state []int
			for range r.IntN(65 - min(len(takes), 64)) {
				state = append(state, 1+r.IntN(4))
			}
			state = append(state, typed(takes)...)
			if n := len(state); n > 0 && r.IntN(3) == 0 {
				state[n-1-r.IntN(min(n, 1+len(takes)))] = 1 + r.IntN(4)
			}
			follows(t, s, state, x)
		}
	}
}
