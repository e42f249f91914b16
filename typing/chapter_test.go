package typing_test

import (
	"math"
	"slices"
	"strings"
	"testing"

	"backstay/api"
	"backstay/function"
	"backstay/opcode"
)

// typed are the types of letters.
func typed(s string) []int {
	var l []int
	for _, letter := range s {
		l = append(l, 1+strings.IndexRune("IRFP", letter))
	}
	return l
}

// letters are types' letters; of what is no type it is `?`.
func letters(l []int) string {
	var s strings.Builder
	for _, t := range l {
		if t < 1 || t > 4 {
			s.WriteByte('?')
			continue
		}
		s.WriteByte("IRFP"[t-1])
	}
	return s.String()
}

// cycle are so many letters: some of a text's, again and again.
func cycle(s string, n int) string {
	return strings.Repeat(s, n/len(s)+1)[:n]
}

// text is the instruction of a text.
func text(t *testing.T, s string) api.Instr {
	t.Helper()
	x, e := opcode.Read(s)
	if e != api.OK {
		t.Fatalf("%q is no instruction's text", s)
	}
	return x
}

// texts are the instructions of a text that has a comma between two.
func texts(t *testing.T, s string) []api.Instr {
	t.Helper()
	var l []api.Instr
	for _, one := range strings.Split(s, ",") {
		l = append(l, text(t, strings.TrimSpace(one)))
	}
	return l
}

// sig is the signature of a text that has a `>` between arguments and results.
func sig(s string) api.Signature {
	args, results, _ := strings.Cut(s, ">")
	return api.Signature{Args: typed(args), Results: typed(results)}
}

// context is one of so many shapes, and of texts' signatures.
func context(shapes int, sigs ...string) api.Context {
	c := api.Context{Shapes: shapes}
	for _, s := range sigs {
		c.Sigs = append(c.Sigs, sig(s))
	}
	return c
}

// of is a function of a text's signature, with locals.
func of(s, locals string) api.Function {
	return api.Function{Name: "f", Sig: sig(s), Locals: typed(locals), Body: []api.Instr{{Op: api.OpRet}}}
}

// setting is what an instruction is looked at in.
type setting struct {
	c api.Context
	f api.Function
}

// example is that of the chapter's examples.
func example() setting { return setting{context(0, "I>R"), of("I>R", "")} }

// most is one of the most signatures, shapes and slots that there may be, the greatest signatures among them.
func most() setting {
	sigs := []string{
		">", cycle("I", 64) + ">", ">" + cycle("I", 64), cycle("IRFP", 64) + ">", ">" + cycle("IRF", 64), cycle("PFRI", 63) + ">R", "P>" + cycle("FRI", 63), cycle("RI", 32) + ">" + cycle("IF", 32),
	}
	for n := range 55 {
		sigs = append(sigs, cycle("IPRRF", n%7)+">"+cycle("FIR", n%5))
	}
	return setting{context(64, append(sigs, "RP>FI")...), of(cycle("IRFP", 20)+">"+cycle("IRF", 20), cycle("PFRI", 24))}
}

// settings are some: without slots and shapes, and with all that there may be.
func settings() []setting {
	return []setting{
		example(),
		{context(0, ">"), of(">", "")},
		{context(3, ">", "I>R", "PI>IF", "IRFP>IRF", ">IIII", "FF>"), of("IPRF>IRF", "PIFR")},
		{context(1, "PPP>"), of(">F", "")},
		{context(64, ">I", "I>"), of("P>", "I")},
		most(),
	}
}

// fixed are the effects that chapter 4 tells, by op; T is the type that an instruction names.
func fixed() map[int]string {
	return map[int]string{
		api.OpNop: ":", api.OpInt: ":I", api.OpZero: ":T", api.OpAddr: ":P", api.OpLdp: "P:I", api.OpStp: "PI:",
		api.OpNew: ":R", api.OpGet: "R:T", api.OpSet: "RT:", api.OpFunc: ":F", api.OpBin: "II:I", api.OpUn: "I:I", api.OpEq: "TT:I",
		api.OpJmp: ":", api.OpJz: "I:", api.OpRet: ":", api.OpPanic: "I:", api.OpRecover: ":II", api.OpGoexit: ":", api.OpPrint: "I:", api.OpIn: ":II",
	}
}

// isSignature says whether a signature may be, as the chapter on shapes tells.
func isSignature(g api.Signature) bool {
	return len(g.Args)+len(g.Results) <= 64 && !strings.Contains(letters(g.Args), "?") && !strings.ContainsAny(letters(g.Results), "?P")
}

// isContext says whether a context may be.
func isContext(c api.Context) bool {
	return len(c.Sigs) >= 1 && len(c.Sigs) <= 64 && c.Shapes >= 0 && c.Shapes <= 64 &&
		!slices.ContainsFunc(c.Sigs, func(g api.Signature) bool { return !isSignature(g) })
}

// isState says whether a list is a state.
func isState(l []int) bool {
	return len(l) <= 64 && !strings.Contains(letters(l), "?")
}

// needOf is what the chapter tells of an instruction: what it takes, what it leaves, as letters, or the error.
func needOf(s setting, x api.Instr) (takes, leaves string, e api.Errno) {
	switch {
	case !isContext(s.c):
		return "", "", api.ErrSignature
	case function.Check(s.f) != api.OK:
		return "", "", api.ErrFunction
	case opcode.Check(x) != api.OK:
		return "", "", api.ErrOpcode
	case !isThere(s, x):
		return "", "", api.ErrWhich
	}
	slots := slotsOf(s.f)
	switch x.Op {
	case api.OpLoad:
		return "", string(slots[x.A]), api.OK
	case api.OpStore:
		return string(slots[x.A]), "", api.OK
	case api.OpCall, api.OpCalli, api.OpDefer, api.OpDeferi:
		return calling(s.c.Sigs[x.A], x.Op)
	case api.OpDup, api.OpDrop, api.OpSwap:
		return "", "", api.ErrDepends
	}
	named := letters([]int{int(x.A)})
	if x.Op == api.OpGet || x.Op == api.OpSet {
		named = letters([]int{int(x.B)})
	}
	takes, leaves, _ = strings.Cut(strings.ReplaceAll(fixed()[x.Op], "T", named), ":")
	return takes, leaves, api.OK
}

// slotsOf are the letters of a function's slots.
func slotsOf(f api.Function) string {
	return letters(f.Sig.Args) + letters(f.Sig.Results) + letters(f.Locals)
}

// isThere says whether there is what an instruction names.
func isThere(s setting, x api.Instr) bool {
	slots := slotsOf(s.f)
	switch x.Op {
	case api.OpLoad, api.OpStore:
		return int(x.A) < len(slots)
	case api.OpAddr:
		return int(x.A) < len(slots) && slots[x.A] == 'I'
	case api.OpNew:
		return int(x.A) < s.c.Shapes
	case api.OpFunc, api.OpCall, api.OpCalli, api.OpDefer, api.OpDeferi:
		return int(x.A) < len(s.c.Sigs)
	}
	return true
}

// calling is what an op that calls, or defers, takes and leaves.
func calling(g api.Signature, op int) (takes, leaves string, e api.Errno) {
	takes = letters(g.Args)
	if op == api.OpCalli || op == api.OpDeferi {
		takes = "F" + takes
	}
	if op == api.OpCall || op == api.OpCalli {
		leaves = letters(g.Results)
	}
	return takes, leaves, api.OK
}

// stepOf is what the chapter tells of a step: the state behind it, as letters, or the error.
func stepOf(s setting, state []int, x api.Instr) (string, api.Errno) {
	takes, leaves, e := needOf(s, x)
	there := letters(state)
	n := len(there)
	switch {
	case e != api.OK && e != api.ErrWhich && e != api.ErrDepends:
		return "", e
	case !isState(state):
		return "", api.ErrType
	case e == api.ErrWhich:
		return "", e
	case x.Op == api.OpDup && n >= 1:
		there += there[n-1:]
	case x.Op == api.OpDrop && n >= 1:
		there = there[:n-1]
	case x.Op == api.OpSwap && n >= 2:
		there = there[:n-2] + there[n-1:] + there[n-2:n-1]
	case e == api.ErrDepends || n < len(takes):
		return "", api.ErrHeight
	case !strings.HasSuffix(there, takes):
		return "", api.ErrTyped
	default:
		there = strings.TrimSuffix(there, takes) + leaves
	}
	switch {
	case len(there) > 64:
		return "", api.ErrHeight
	case x.Op == api.OpRet || x.Op == api.OpPanic || x.Op == api.OpGoexit:
		return "", api.OK
	}
	return there, api.OK
}

// instructions are some of each op, with all numbers of slots, shapes and functions that may stand there.
func instructions() []api.Instr {
	var all []api.Instr
	for op := range api.Ops {
		for _, a := range []int64{0, 1, 2, 3, 4, 5, 6, 7, 8, 9, 10, 11, 12, 13, 14, 15, 16, 20, 31, 32, 40, 61, 62, 63, 511} {
			for b := range int64(4) {
				if x := (api.Instr{Op: op, A: a, B: b}); opcode.Check(x) == api.OK {
					all = append(all, x)
				}
			}
		}
	}
	return append(all, api.Instr{Op: api.OpInt, A: math.MinInt64}, api.Instr{Op: api.OpInt, A: math.MaxInt64})
}

// states are all of up to so many operands.
func states(most int) [][]int {
	all := [][]int{nil}
	for from := 0; from < len(all) && len(all[from]) < most; from++ {
		for t := 1; t <= 4; t++ {
			all = append(all, append(slices.Clone(all[from]), t))
		}
	}
	return all
}

// noTypes are numbers that are no types.
func noTypes() []int {
	return []int{0, 5, 6, -1, -4, 255, 257, 1<<32 + 1, math.MinInt, math.MaxInt}
}

// noInstructions are some that may not be.
func noInstructions() []api.Instr {
	var all []api.Instr
	for op := range api.Ops {
		a, b := opcode.Kinds(op)
		least := api.Instr{Op: op}
		if a == api.OperandType {
			least.A = 1
		}
		if b == api.OperandHeld {
			least.B = 1
		}
		wrong := least
		if a != api.OperandNumber {
			wrong.A = -1
			all = append(all, wrong)
			wrong.A = 512
			all = append(all, wrong)
			wrong.A = 1 << 32
			all = append(all, wrong)
		}
		wrong = least
		wrong.B = -1
		all = append(all, wrong)
		wrong.B = 4
		all = append(all, wrong)
	}
	for _, op := range []int{math.MinInt, -256, -1, 30, 31, 256 + api.OpRet, 1<<32 + api.OpNop, math.MaxInt} {
		all = append(all, api.Instr{Op: op}, api.Instr{Op: op, A: 1}, api.Instr{Op: op, A: 1, B: 1})
	}
	return append(all,
		api.Instr{Op: api.OpZero}, api.Instr{Op: api.OpZero, A: 5}, api.Instr{Op: api.OpEq}, api.Instr{Op: api.OpGet}, api.Instr{Op: api.OpSet, A: 16, B: 1},
		api.Instr{Op: api.OpLoad, A: 64}, api.Instr{Op: api.OpNew, A: 64}, api.Instr{Op: api.OpCall, A: 64}, api.Instr{Op: api.OpBin, A: 14}, api.Instr{Op: api.OpUn, A: 9})
}

// noFunctions are some that may not be, each for one reason.
func noFunctions() []api.Function {
	good := func() api.Function { return of("IP>R", "F") }
	change := func(how func(f *api.Function)) api.Function {
		f := good()
		how(&f)
		return f
	}
	return []api.Function{
		{},
		change(func(f *api.Function) { f.Name = "" }),
		change(func(f *api.Function) { f.Name = "1f" }),
		change(func(f *api.Function) { f.Name = strings.Repeat("f", 33) }),
		change(func(f *api.Function) { f.Body = nil }),
		change(func(f *api.Function) { f.Body = []api.Instr{{}} }),
		change(func(f *api.Function) { f.Body = []api.Instr{{Op: api.OpJmp, A: 1}} }),
		change(func(f *api.Function) { f.Body = []api.Instr{{Op: api.Ops}, {Op: api.OpRet}} }),
		change(func(f *api.Function) { f.Body = append(make([]api.Instr, 512), f.Body...) }),
		change(func(f *api.Function) { f.Sig.Args[0] = 0 }),
		change(func(f *api.Function) { f.Sig.Args[1] = 5 }),
		change(func(f *api.Function) { f.Sig.Results[0] = api.TypeP }),
		change(func(f *api.Function) { f.Locals[0] = -1 }),
		change(func(f *api.Function) { f.Locals = typed(cycle("I", 62)) }),
		change(func(f *api.Function) { f.Sig.Args = typed(cycle("I", 63)) }),
		change(func(f *api.Function) { f.Sig.Results = typed(cycle("I", 62)) }),
	}
}

// noSignatures are some that may not be.
func noSignatures() []api.Signature {
	all := []api.Signature{
		sig(cycle("I", 65) + ">"), sig(">" + cycle("I", 65)), sig(cycle("I", 64) + ">R"), sig("P>" + cycle("R", 64)), sig(cycle("I", 33) + ">" + cycle("F", 32)),
		sig(">P"), sig("P>P"), sig(">IP"), sig(">PI"), sig(">IRFP"), sig(cycle("I", 10) + ">" + cycle("I", 20) + "P"),
	}
	for _, t := range noTypes() {
		all = append(all,
			api.Signature{Args: []int{t}}, api.Signature{Results: []int{t}}, api.Signature{Args: []int{1, t}}, api.Signature{Args: []int{t, 1}},
			api.Signature{Args: typed("IRFP"), Results: []int{1, t, 2}}, api.Signature{Args: []int{4, t, 4}, Results: typed("IRF")})
	}
	return all
}

// noContexts are some that may not be, each for one reason.
func noContexts() []api.Context {
	all := []api.Context{
		{}, {Shapes: 1}, {Sigs: []api.Signature{}}, {Sigs: make([]api.Signature, 65)}, {Sigs: make([]api.Signature, 66), Shapes: 64}, {Sigs: make([]api.Signature, 1000)},
	}
	for _, n := range []int{-1, 65, 66, -64, 256, 1 << 32, -1 << 32, math.MinInt, math.MaxInt} {
		all = append(all, api.Context{Sigs: make([]api.Signature, 1), Shapes: n}, api.Context{Sigs: make([]api.Signature, 64), Shapes: n})
	}
	for i, g := range noSignatures() {
		n := []int{1, 2, 3, 63, 64}[i%5]
		for _, at := range []int{0, n / 2, n - 1} {
			c := api.Context{Sigs: make([]api.Signature, n), Shapes: i % 65}
			c.Sigs[at] = g
			all = append(all, c)
		}
	}
	return all
}

// noStates are lists that are none: of a number too many, or with one that is no type, wherever it stands.
func noStates() [][]int {
	all := [][]int{typed(cycle("I", 65)), typed(cycle("IRFP", 66)), typed(cycle("PI", 128)), typed(cycle("R", 1025))}
	for _, t := range noTypes() {
		for _, n := range []int{1, 2, 3, 7, 63, 64} {
			for _, at := range []int{0, n / 2, n - 1} {
				l := typed(cycle("IRFP", n))
				l[at] = t
				all = append(all, l)
			}
		}
	}
	return all
}

// What is put together here is what api says: types are numbered so, and so are ops.
func TestP12_1Numbers(t *testing.T) {
	if !slices.Equal(typed("IRFP"), []int{api.TypeI, api.TypeR, api.TypeF, api.TypeP}) || letters([]int{0, 1, 2, 3, 4, 5}) != "?IRFP?" {
		t.Error(typed("IRFP"))
	}
	for op := range api.Ops {
		s, told := fixed()[op]
		for _, x := range instructions() {
			takes, leaves, isFixed := opcode.Effect(x)
			if x.Op == op && isFixed != told {
				t.Errorf("%v: fixed %t", x, isFixed)
			}
			if x.Op == op && told && !strings.Contains(s, "T") && letters(takes)+":"+letters(leaves) != s {
				t.Errorf("%v: %s; layer 4 says %v : %v", x, s, takes, leaves)
			}
		}
	}
	for i, c := range noContexts() {
		if isContext(c) {
			t.Errorf("context %d may be", i)
		}
	}
	for _, f := range noFunctions() {
		if function.Check(f) == api.OK {
			t.Errorf("%v may be", f)
		}
	}
	for _, x := range noInstructions() {
		if opcode.Check(x) == api.OK {
			t.Errorf("%v may be", x)
		}
	}
	for _, l := range noStates() {
		if isState(l) {
			t.Errorf("%v is a state", l)
		}
	}
	for i, s := range settings() {
		if !isContext(s.c) || function.Check(s.f) != api.OK {
			t.Errorf("setting %d may not be", i)
		}
	}
}
