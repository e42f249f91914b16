package opcode_test

import (
	"slices"
	"strings"
	"testing"

	"backstay/api"
	"backstay/opcode"
)

// P4.1: each op has its name, what is none has nothing.
func TestP4_1Name(t *testing.T) {
	for op, row := range chapter() {
		if got := opcode.Name(op); got != row.name {
			t.Errorf("of %d: %q, want %q", op, got, row.name)
		}
	}
	for _, op := range noOps() {
		if got := opcode.Name(op); got != "" {
			t.Errorf("of %d: %q, want nothing", op, got)
		}
	}
}

// noNames are texts that no op has as its name, among them some that look like one, and operations' and types'.
func noNames() []string {
	l := []string{"", " ", "\n", "x", "0", "24", "I", "R", "F", "P", "add", "div", "neg", "i8", "nil", "none", "return", "print ln", "op", "nop nop", "\x00", "\xff", strings.Repeat("nop", 5000)}
	isName := make(map[string]int)
	for _, row := range chapter() {
		isName[row.name]++
	}
	for _, row := range chapter() {
		name := row.name
		l = append(l, strings.ToUpper(name), strings.ToUpper(name[:1])+name[1:], " "+name, name+" ", name+"\t", name+"\n", name+"\x00", name+name, name+".", name+":", name+" 0", name+"s", name[:len(name)-1]+"\xff", "\ufeff"+name)
		for cut := range name {
			for _, piece := range []string{name[:cut], name[cut:]} {
				if isName[piece] == 0 {
					l = append(l, piece)
				}
			}
		}
	}
	return l
}

// P4.1: each name has its op; ErrOpcode, if there is no such name.
func TestP4_1Of(t *testing.T) {
	for want, row := range chapter() {
		if op, e := opcode.Of(row.name); op != want || e != api.OK {
			t.Errorf("of %q: %d, error %d; want %d", row.name, op, e, want)
		}
	}
	for _, name := range noNames() {
		if op, e := opcode.Of(name); op != 0 || e != api.ErrOpcode {
			t.Errorf("of %q: %d, error %d; want ErrOpcode", name, op, e)
		}
	}
}

// P4.1: each op's operands have their kinds; OperandNone where there is none, and of no op.
func TestP4_1Kinds(t *testing.T) {
	for op, row := range chapter() {
		if a, b := opcode.Kinds(op); a != row.kinds[0] || b != row.kinds[1] {
			t.Errorf("of %s: %d, %d; want %v", row.name, a, b, row.kinds)
		}
	}
	for _, op := range noOps() {
		if a, b := opcode.Kinds(op); a != api.OperandNone || b != api.OperandNone {
			t.Errorf("of %d: %d, %d", op, a, b)
		}
	}
}

// P4.1: what is there, with operands in their ranges, may be; of all else it is ErrOpcode.
func TestP4_1Check(t *testing.T) {
	for _, x := range mayBe() {
		if e := opcode.Check(x); e != api.OK {
			t.Errorf("%v: error %d", x, e)
		}
	}
	for _, x := range mayNotBe() {
		if e := opcode.Check(x); e != api.ErrOpcode {
			t.Errorf("%v: error %d, want ErrOpcode", x, e)
		}
	}
}

// P4.1: each operand's ends, told one by one, and what is one beyond.
func TestP4_1CheckOfEnds(t *testing.T) {
	for _, c := range []struct {
		op              int
		least, greatest int64
	}{
		{api.OpZero, 1, 4}, {api.OpEq, 1, 4},
		{api.OpLoad, 0, api.MaxSlots - 1}, {api.OpStore, 0, api.MaxSlots - 1}, {api.OpAddr, 0, api.MaxSlots - 1},
		{api.OpNew, 0, api.MaxShapes - 1},
		{api.OpFunc, 0, api.MaxFunctions - 1}, {api.OpCall, 0, api.MaxFunctions - 1}, {api.OpCalli, 0, api.MaxFunctions - 1}, {api.OpDefer, 0, api.MaxFunctions - 1}, {api.OpDeferi, 0, api.MaxFunctions - 1},
		{api.OpBin, 0, api.Bins - 1}, {api.OpUn, 0, api.Uns - 1},
		{api.OpJmp, 0, api.MaxBody - 1}, {api.OpJz, 0, api.MaxBody - 1},
		{api.OpNop, 0, 0}, {api.OpRet, 0, 0}, {api.OpIn, 0, 0},
	} {
		for n, want := range map[int64]api.Errno{c.least - 1: api.ErrOpcode, c.least: api.OK, c.greatest: api.OK, c.greatest + 1: api.ErrOpcode} {
			if e := opcode.Check(api.Instr{Op: c.op, A: n}); e != want {
				t.Errorf("op %d of %d: error %d, want %d", c.op, n, e, want)
			}
		}
	}
	for _, op := range []int{api.OpGet, api.OpSet} {
		for _, c := range []struct {
			a, b int64
			want api.Errno
		}{
			{0, 1, api.OK}, {15, 3, api.OK}, {0, 3, api.OK}, {15, 1, api.OK},
			{-1, 1, api.ErrOpcode}, {16, 1, api.ErrOpcode}, {0, 0, api.ErrOpcode}, {0, 4, api.ErrOpcode}, {15, 4, api.ErrOpcode}, {16, 4, api.ErrOpcode}, {1, -1, api.ErrOpcode},
		} {
			if e := opcode.Check(api.Instr{Op: op, A: c.a, B: c.b}); e != c.want {
				t.Errorf("op %d of %d, %d: error %d, want %d", op, c.a, c.b, e, c.want)
			}
		}
	}
}

// P4.1: an operand that there is not is 0.
func TestP4_1CheckOfNoOperand(t *testing.T) {
	for op, row := range chapter() {
		for i, kind := range row.kinds {
			if kind != api.OperandNone {
				continue
			}
			x := api.Instr{Op: op}
			if row.kinds[0] != api.OperandNone {
				x.A = 1
			}
			if e := opcode.Check(x); e != api.OK {
				t.Fatalf("%v: error %d", x, e)
			}
			for _, n := range beyond(kind) {
				y := x
				if i == 0 {
					y.A = n
				} else {
					y.B = n
				}
				if e := opcode.Check(y); e != api.ErrOpcode {
					t.Errorf("%v: error %d, want ErrOpcode", y, e)
				}
			}
		}
	}
}

// P4.3: what is fixed is told, with the type that the instruction names; what is not fixed, is not.
func TestP4_3Effect(t *testing.T) {
	for _, x := range mayBe() {
		row := chapter()[x.Op]
		takes, leaves, fixed := opcode.Effect(x)
		if row.takes == "-" {
			if len(takes) != 0 || len(leaves) != 0 || fixed {
				t.Errorf("%v: %v : %v, %v; want nothing", x, takes, leaves, fixed)
			}
			continue
		}
		if !slices.Equal(takes, effectOf(x, row.takes)) || !slices.Equal(leaves, effectOf(x, row.leaves)) || !fixed {
			t.Errorf("%v: %v : %v, %v; want %s : %s", x, takes, leaves, fixed, row.takes, row.leaves)
		}
	}
}

// P4.3: some effects, written out.
func TestP4_3EffectWrittenOut(t *testing.T) {
	const i, r, f, p = api.TypeI, api.TypeR, api.TypeF, api.TypeP
	for _, c := range []struct {
		x             api.Instr
		takes, leaves []int
	}{
		{api.Instr{Op: api.OpNop}, nil, nil},
		{api.Instr{Op: api.OpInt, A: -5}, nil, []int{i}},
		{api.Instr{Op: api.OpZero, A: p}, nil, []int{p}},
		{api.Instr{Op: api.OpZero, A: i}, nil, []int{i}},
		{api.Instr{Op: api.OpAddr, A: 63}, nil, []int{p}},
		{api.Instr{Op: api.OpLdp}, []int{p}, []int{i}},
		{api.Instr{Op: api.OpStp}, []int{p, i}, nil},
		{api.Instr{Op: api.OpNew, A: 1}, nil, []int{r}},
		{api.Instr{Op: api.OpGet, A: 3, B: f}, []int{r}, []int{f}},
		{api.Instr{Op: api.OpGet, A: 2, B: i}, []int{r}, []int{i}},
		{api.Instr{Op: api.OpSet, A: 1, B: i}, []int{r, i}, nil},
		{api.Instr{Op: api.OpSet, A: 2, B: f}, []int{r, f}, nil},
		{api.Instr{Op: api.OpFunc, A: 2}, nil, []int{f}},
		{api.Instr{Op: api.OpBin, A: 4}, []int{i, i}, []int{i}},
		{api.Instr{Op: api.OpUn, A: 4}, []int{i}, []int{i}},
		{api.Instr{Op: api.OpEq, A: p}, []int{p, p}, []int{i}},
		{api.Instr{Op: api.OpEq, A: f}, []int{f, f}, []int{i}},
		{api.Instr{Op: api.OpJmp, A: 2}, nil, nil},
		{api.Instr{Op: api.OpJz, A: 2}, []int{i}, nil},
		{api.Instr{Op: api.OpRet}, nil, nil},
		{api.Instr{Op: api.OpPanic}, []int{i}, nil},
		{api.Instr{Op: api.OpRecover}, nil, []int{i, i}},
		{api.Instr{Op: api.OpGoexit}, nil, nil},
		{api.Instr{Op: api.OpPrint}, []int{i}, nil},
		{api.Instr{Op: api.OpIn}, nil, []int{i, i}},
	} {
		if takes, leaves, fixed := opcode.Effect(c.x); !slices.Equal(takes, c.takes) || !slices.Equal(leaves, c.leaves) || !fixed {
			t.Errorf("%v: %v : %v, %v; want %v : %v", c.x, takes, leaves, fixed, c.takes, c.leaves)
		}
	}
}

// P4.3: what ends, and where what goes does.
func TestP4_3EndsAndGoes(t *testing.T) {
	for _, x := range mayBe() {
		name := chapter()[x.Op].name
		ends := name == "jmp" || name == "ret" || name == "panic" || name == "goexit"
		if got := opcode.Ends(x); got != ends {
			t.Errorf("%v ends: %v", x, got)
		}
		goes, want := name == "jmp" || name == "jz", 0
		if goes {
			want = int(x.A)
		}
		if place, ok := opcode.Goes(x); place != want || ok != goes {
			t.Errorf("%v goes: %d, %v", x, place, ok)
		}
	}
}

// P4.3: an instruction that may not be takes and leaves nothing, does not end, and goes nowhere.
func TestP4_3OfWhatMayNotBe(t *testing.T) {
	for _, x := range mayNotBe() {
		if takes, leaves, fixed := opcode.Effect(x); len(takes) != 0 || len(leaves) != 0 || fixed {
			t.Errorf("%v: %v : %v, %v", x, takes, leaves, fixed)
		}
		if opcode.Ends(x) {
			t.Errorf("%v ends", x)
		}
		if place, ok := opcode.Goes(x); place != 0 || ok {
			t.Errorf("%v goes to %d, %v", x, place, ok)
		}
	}
}
