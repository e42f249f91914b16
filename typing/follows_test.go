package typing_test

import (
	"math/rand/v2"
	"slices"
	"testing"

	"backstay/api"
	"backstay/opcode"
	"backstay/typing"
)

// roomy is a list in memory of its own, that goes on behind it with what is told.
func roomy[T any](l []T, behind ...T) []T {
	return slices.Concat(l, behind)[:len(l)]
}

// whole is a list with all the memory behind it.
func whole[T any](l []T) []T { return l[:cap(l)] }

// spoil writes over a list, and over all memory behind it.
func spoil[T any](l []T, with T) {
	l = whole(l)
	for i := range l {
		l[i] = with
	}
}

// again is a setting that is the same, in memory of its own that goes on behind each list.
func again(s setting) setting {
	both := func(g api.Signature) api.Signature {
		return api.Signature{Args: roomy(g.Args, 3, 2, 1), Results: roomy(g.Results, 3, 2, 1)}
	}
	var sigs []api.Signature
	for _, g := range s.c.Sigs {
		sigs = append(sigs, both(g))
	}
	return setting{
		api.Context{Sigs: roomy(sigs, sig("P>R"), sig(">")), Shapes: s.c.Shapes},
		api.Function{Name: s.f.Name, Sig: both(s.f.Sig), Locals: roomy(s.f.Locals, 1, 4), Body: roomy(s.f.Body, api.Instr{Op: api.OpIn})},
	}
}

// same says whether two settings are the same, with all the memory behind their lists.
func same(a, b setting) bool {
	sigs := func(g, h api.Signature) bool {
		return slices.Equal(whole(g.Args), whole(h.Args)) && slices.Equal(whole(g.Results), whole(h.Results))
	}
	return slices.EqualFunc(whole(a.c.Sigs), whole(b.c.Sigs), sigs) && a.c.Shapes == b.c.Shapes &&
		a.f.Name == b.f.Name && sigs(a.f.Sig, b.f.Sig) && slices.Equal(whole(a.f.Locals), whole(b.f.Locals)) && slices.Equal(whole(a.f.Body), whole(b.f.Body))
}

// spoilAll writes over all that a setting has.
func spoilAll(s setting) {
	for _, g := range append(slices.Clone(whole(s.c.Sigs)), s.f.Sig) {
		spoil(g.Args, -9)
		spoil(g.Results, -9)
	}
	spoil(s.c.Sigs, api.Signature{Args: []int{-9}})
	spoil(s.f.Locals, -9)
	spoil(s.f.Body, api.Instr{Op: -9})
}

// P12.4: no call changes what it is handed, nor what stands behind that in its memory.
func TestP12_4OnlyRead(t *testing.T) {
	all := append(settings(), setting{noContexts()[20], example().f}, setting{example().c, noFunctions()[9]})
	for _, s := range all {
		given, kept := again(s), again(s)
		typing.Check(given.c)
		typing.Of([]api.Function{given.f, given.f}, 3)
		for _, x := range instructions() {
			typing.Need(given.c, given.f, x)
			takes, _, _ := needOf(s, x)
			for _, from := range []string{"", "IR", "RF", takes, "P" + takes, cycle("IRFP", 63) + "I"} {
				state := roomy(typed(from), 4, 3, 2, 1)
				was := slices.Clone(whole(state))
				typing.Step(given.c, given.f, state, x)
				l := roomy(texts(t, "int 1, drop, nop"), text(t, "ret"))
				l[2] = x
				wasRun := slices.Clone(whole(l))
				typing.Run(given.c, given.f, state, l)
				typing.Meet(state, state[:len(state)/2])
				if !slices.Equal(whole(state), was) || !slices.Equal(whole(l), wasRun) {
					t.Fatalf("%s: %v is now %v, %v is now %v", opcode.Show(x), was, whole(state), wasRun, whole(l))
				}
			}
			if !same(given, kept) {
				t.Fatalf("%s: %v is now %v", opcode.Show(x), kept, given)
			}
		}
	}
}

// P12.4: what Need answers is new: neither list changes with the other, nor with what was handed in, and the other way round.
func TestP12_4NeedIsNew(t *testing.T) {
	for _, s := range settings() {
		for _, x := range instructions() {
			given, kept := again(s), again(s)
			takes, leaves, _ := typing.Need(given.c, given.f, x)
			wantTakes, wantLeaves, _ := needOf(s, x)
			other, otherLeaves, _ := typing.Need(given.c, given.f, x)
			spoil(other, -7)
			if letters(otherLeaves) != wantLeaves {
				t.Fatalf("%s: what is left went with what is taken: %v", opcode.Show(x), otherLeaves)
			}
			spoil(otherLeaves, -7)
			if !same(given, kept) {
				t.Fatalf("%s: what was handed in went with the answer: %v", opcode.Show(x), given)
			}
			spoilAll(given)
			if letters(takes) != wantTakes || letters(leaves) != wantLeaves {
				t.Fatalf("%s: the answer went with what was handed in, or with another one: %v : %v", opcode.Show(x), takes, leaves)
			}
		}
	}
}

// P12.4: likewise the states of Step and Run, at their ends and where there is an error.
func TestP12_4StatesAreNew(t *testing.T) {
	for _, s := range settings() {
		for _, x := range instructions() {
			takes, _, _ := needOf(s, x)
			for _, from := range []string{takes, "RF" + takes, "IRFP"} {
				given, kept := again(s), again(s)
				state := roomy(typed(from), 1, 2, 3)
				was := slices.Clone(whole(state))
				l := []api.Instr{x, text(t, "nop"), x}
				first, _ := typing.Step(given.c, given.f, state, x)
				none, _, _ := typing.Run(given.c, given.f, state, nil)
				some, _, _ := typing.Run(given.c, given.f, state, l)
				want := [][]int{slices.Clone(first), slices.Clone(none), slices.Clone(some)}
				for i := range want {
					second, _ := typing.Step(given.c, given.f, state, x)
					noneAgain, _, _ := typing.Run(given.c, given.f, state, nil)
					someAgain, _, _ := typing.Run(given.c, given.f, state, l)
					spoil([][]int{second, noneAgain, someAgain}[i], -7)
				}
				if !slices.Equal(whole(state), was) || !same(given, kept) {
					t.Fatalf("%s from %s: what was handed in went with the answer: %v, %v", opcode.Show(x), from, whole(state), given)
				}
				spoil(state, -9)
				spoilAll(given)
				if got := [][]int{first, none, some}; !slices.EqualFunc(got, want, slices.Equal[[]int]) {
					t.Fatalf("%s from %s: the answer went with what was handed in, or with another one: %v; want %v", opcode.Show(x), from, got, want)
				}
			}
		}
	}
}

// P12.4: where a run stops at once, the state is new as well.
func TestP12_4StateOfWrongIsNew(t *testing.T) {
	s := example()
	for _, c := range []setting{s, {api.Context{}, s.f}, {s.c, api.Function{}}} {
		for _, l := range []string{"load 9", "swap, panic, nop", "call 0, nop, nop"} {
			for _, was := range [][]int{typed("PP"), {1, 9}} {
				state := roomy(was, 1, 2)
				got, _, e := typing.Run(c.c, c.f, state, texts(t, l))
				if e == api.OK || len(got) != 2 {
					t.Fatalf("%s: %v, error %d", l, got, e)
				}
				kept := slices.Clone(got)
				spoil(state, -9)
				if !slices.Equal(got, kept) {
					t.Errorf("%s: %v; want %v", l, got, kept)
				}
				state = roomy(was, 1, 2)
				got, _, _ = typing.Run(c.c, c.f, state, texts(t, l))
				spoil(got, -7)
				if !slices.Equal(state, was) {
					t.Errorf("%s: what was handed in went with the answer: %v", l, state)
				}
			}
		}
	}
}

// P12.4: a context is new: it keeps no function's lists, and no two of its lists are one.
func TestP12_4OfIsNew(t *testing.T) {
	f := again(setting{f: of("IP>RF", "I")}).f
	l := roomy([]api.Function{f, f, of("R>", "")}, of(">F", ""))
	c, other := typing.Of(l, 2), typing.Of(l, 2)
	spoil(other.Sigs[0].Args, -7)
	spoil(other.Sigs[0].Results, -7)
	if letters(other.Sigs[1].Args)+letters(other.Sigs[1].Results) != "IPRF" || letters(other.Sigs[2].Args) != "R" {
		t.Errorf("one went with another one: %v", other)
	}
	spoil(other.Sigs, api.Signature{Args: []int{-7}})
	if letters(f.Sig.Args)+letters(f.Sig.Results) != "IPRF" || letters(whole(f.Sig.Args)[:5]) != "IPFRI" {
		t.Errorf("what was handed in went with the answer: %v", f)
	}
	spoil(f.Sig.Args, -9)
	spoil(f.Sig.Results, -9)
	spoil(l, api.Function{})
	if len(c.Sigs) != 3 || letters(c.Sigs[0].Args)+">"+letters(c.Sigs[0].Results) != "IP>RF" || letters(c.Sigs[1].Args)+">"+letters(c.Sigs[1].Results) != "IP>RF" || letters(c.Sigs[2].Args) != "R" || c.Shapes != 2 {
		t.Errorf("the answer went with what was handed in, or with another one: %v", c)
	}
}

// P12.4: nothing is kept: what is written into afterwards is another context, function and state.
func TestP12_4KeepsNothing(t *testing.T) {
	s := setting{context(1, "I>R"), of("I>R", "P")}
	steps(t, s, typed("I"), text(t, "call 0"), "R", api.OK)
	s.c.Sigs[0].Args[0] = api.TypeF
	steps(t, s, typed("I"), text(t, "call 0"), "", api.ErrTyped)
	steps(t, s, typed("F"), text(t, "call 0"), "R", api.OK)
	s.f.Locals[0] = api.TypeI
	steps(t, s, typed("F"), text(t, "addr 2"), "FP", api.OK)
	s.f.Body[0] = api.Instr{}
	steps(t, s, typed("F"), text(t, "addr 2"), "", api.ErrFunction)
	s.c.Sigs[0].Results[0] = api.TypeP
	steps(t, s, typed("F"), text(t, "addr 2"), "", api.ErrSignature)
}

// P12.5: a step that goes from a state goes from each one that has more below, as long as that has room; and that stays, but behind what ends.
func TestP12_5MoreBelow(t *testing.T) {
	for _, s := range settings() {
		for _, x := range instructions() {
			takes, _, e := needOf(s, x)
			ends := slices.Contains([]int{api.OpRet, api.OpPanic, api.OpGoexit}, x.Op)
			for _, state := range append(states(2), typed(takes), typed("F"+takes)) {
				behind, e2 := typing.Step(s.c, s.f, state, x)
				if e2 != api.OK {
					continue
				}
				if e != api.OK && e != api.ErrDepends {
					t.Fatalf("%s goes from %v, though Need's error is %d", opcode.Show(x), state, e)
				}
				most := 64 - max(len(state), len(behind))
				if ends {
					most = 64 - len(state)
				}
				for _, more := range []int{1, 2, most / 2, most - 1, most} {
					if more < 0 || more > most {
						continue
					}
					below := cycle("PFRI", more)
					want := below + letters(behind)
					if ends {
						want = ""
					}
					steps(t, s, typed(below+letters(state)), x, want, api.OK)
				}
				// One more than there is room for is no state, ahead or behind.
				want := api.ErrHeight
				if len(state)+most+1 > 64 {
					want = api.ErrType
				}
				steps(t, s, typed(cycle("PFRI", most+1)+letters(state)), x, "", want)
			}
		}
	}
}

// P12.5: what is below what is taken stays, of any state from which a step goes; and what it takes, and leaves, is what Need tells.
func TestP12_5BelowStays(t *testing.T) {
	r := rand.New(rand.NewPCG(12, 5))
	for range 5000 {
		s, x := chance(r), anyOf(r)
		takes, leaves, e := typing.Need(s.c, s.f, x)
		if e != api.OK || slices.Contains([]int{api.OpRet, api.OpPanic, api.OpGoexit}, x.Op) {
			continue
		}
		var below []int
		for range r.IntN(65 - max(len(takes), len(leaves))) {
			below = append(below, 1+r.IntN(4))
		}
		steps(t, s, slices.Concat(below, takes), x, letters(below)+letters(leaves), api.OK)
	}
}

// P12.5: a run that goes from a state goes from each one that has more below, as long as each state on the way has room.
func TestP12_5RunMoreBelow(t *testing.T) {
	s := example()
	l := texts(t, "int 1, dup, dup, bin add, swap, call 0, drop, drop")
	for n := range 65 {
		below := cycle("PRFI", n)
		if n+3 <= 64 {
			runs(t, s, typed(below), l, below, len(l), api.OK)
			continue
		}
		runs(t, s, typed(below), l, below+cycle("I", 64-n), 64-n, api.ErrHeight)
	}
}
