package opcode_test

import (
	"math"
	"slices"
	"strconv"
	"strings"
	"testing"

	"backstay/api"
)

// told is what the chapter tells of an op: its name, its operands' kinds, and what it takes and leaves as letters, T for the type that it names; `-`, where that is not fixed.
type told struct {
	name          string
	kinds         [2]int
	takes, leaves string
}

// chapter is the chapter's table, each op at its number.
func chapter() []told {
	return []told{
		{"nop", [2]int{}, "", ""},
		{"int", [2]int{1}, "", "I"},
		{"zero", [2]int{2}, "", "T"},
		{"load", [2]int{4}, "-", "-"},
		{"store", [2]int{4}, "-", "-"},
		{"addr", [2]int{4}, "", "P"},
		{"ldp", [2]int{}, "P", "I"},
		{"stp", [2]int{}, "PI", ""},
		{"new", [2]int{5}, "", "R"},
		{"get", [2]int{6, 3}, "R", "T"},
		{"set", [2]int{6, 3}, "RT", ""},
		{"func", [2]int{7}, "", "F"},
		{"dup", [2]int{}, "-", "-"},
		{"drop", [2]int{}, "-", "-"},
		{"swap", [2]int{}, "-", "-"},
		{"bin", [2]int{8}, "II", "I"},
		{"un", [2]int{9}, "I", "I"},
		{"eq", [2]int{2}, "TT", "I"},
		{"jmp", [2]int{10}, "", ""},
		{"jz", [2]int{10}, "I", ""},
		{"call", [2]int{7}, "-", "-"},
		{"calli", [2]int{7}, "-", "-"},
		{"defer", [2]int{7}, "-", "-"},
		{"deferi", [2]int{7}, "-", "-"},
		{"ret", [2]int{}, "", ""},
		{"panic", [2]int{}, "I", ""},
		{"recover", [2]int{}, "", "II"},
		{"goexit", [2]int{}, "", ""},
		{"print", [2]int{}, "I", ""},
		{"in", [2]int{}, "", "II"},
	}
}

// bounds are a kind's least and greatest number; 0 twice where there is no operand.
func bounds(kind int) (least, greatest int64) {
	ends := [][2]int64{{0, 0}, {math.MinInt64, math.MaxInt64}, {1, 4}, {1, 3}, {0, 63}, {0, 63}, {0, 15}, {0, 63}, {0, 13}, {0, 8}, {0, 511}}
	return ends[kind][0], ends[kind][1]
}

// integers are numbers of all widths, with both signs, their ends among them.
func integers() []int64 {
	l := []int64{0, 1, -1, 5, -5, 7, 9, 10, -10, 99, 100, -100, 300, 1000, 123456789, -987654321, math.MinInt64, math.MinInt64 + 1, math.MaxInt64, math.MaxInt64 - 1}
	for width := 6; width < 63; width++ {
		end := int64(1) << width
		l = append(l, end-1, end, -end, -end-1)
	}
	return l
}

// within are the numbers that a kind's operand may have: all of them, but of a kind that has too many.
func within(kind int) []int64 {
	if kind == api.OperandNumber {
		return integers()
	}
	var l []int64
	for least, n := bounds(kind); n >= least; n-- {
		l = append(l, n)
	}
	return l
}

// beyond are numbers that a kind's operand may not have: one beyond on either side, the ends of int, and some whose lowest bits are within.
func beyond(kind int) []int64 {
	if kind == api.OperandNumber {
		return nil
	}
	least, greatest := bounds(kind)
	return []int64{least - 1, greatest + 1, math.MinInt64, math.MaxInt64, -greatest - 1, greatest + 256, greatest + 1<<16, greatest + 1<<32, least - 1<<32, math.MinInt64 + greatest, math.MinInt32, math.MaxInt32}
}

// mayBe are the instructions that may be: all of them, but for numbers, which are too many.
func mayBe() []api.Instr {
	var l []api.Instr
	for op, row := range chapter() {
		for _, a := range within(row.kinds[0]) {
			for _, b := range within(row.kinds[1]) {
				l = append(l, api.Instr{Op: op, A: a, B: b})
			}
		}
	}
	return l
}

// noOps are numbers that no op has.
func noOps() []int {
	return []int{math.MinInt, math.MinInt32, -256, -29, -2, -1, 30, 31, 64, 256, 256 + 24, 1 << 16, 1<<32 + 24, math.MaxInt32, math.MaxInt}
}

// mayNotBe are instructions of no op, and those of which one operand is beyond its range, or not 0, though there is none.
func mayNotBe() []api.Instr {
	var l []api.Instr
	for _, op := range noOps() {
		for _, n := range []int64{0, 1, 2} {
			l = append(l, api.Instr{Op: op}, api.Instr{Op: op, A: n}, api.Instr{Op: op, A: n, B: n})
		}
	}
	for op, row := range chapter() {
		for _, a := range within(row.kinds[0]) {
			for _, b := range beyond(row.kinds[1]) {
				l = append(l, api.Instr{Op: op, A: a, B: b})
			}
		}
		for _, a := range beyond(row.kinds[0]) {
			for _, b := range append(within(row.kinds[1]), beyond(row.kinds[1])...) {
				l = append(l, api.Instr{Op: op, A: a, B: b})
			}
		}
	}
	return l
}

// textOf is the text that the chapter tells of an instruction that may be.
func textOf(x api.Instr) string {
	words := []string{chapter()[x.Op].name}
	for i, n := range []int64{x.A, x.B} {
		switch kind := chapter()[x.Op].kinds[i]; kind {
		case api.OperandNone:
		case api.OperandType, api.OperandHeld:
			words = append(words, "IRFP"[n-1:n])
		case api.OperandBin:
			words = append(words, strings.Fields("add sub mul div rem and or xor andnot shl shr lt le eq")[n])
		case api.OperandUn:
			words = append(words, strings.Fields("neg not zero i8 i16 i32 u8 u16 u32")[n])
		default:
			words = append(words, strconv.FormatInt(n, 10))
		}
	}
	return strings.Join(words, " ")
}

// numbered are a number's bytes.
func numbered(n uint64) []byte {
	width := 1
	for width < 9 && n >= 1<<(7*width) {
		width++
	}
	b := make([]byte, width)
	rest := n
	for i := width - 1; i >= 0; i-- {
		b[i] = byte(rest)
		rest >>= 8
	}
	for i := range width - 1 {
		b[0] |= 0x80 >> i
	}
	return b
}

// bytesOf are the bytes that the chapter tells of an instruction that may be.
func bytesOf(x api.Instr) []byte {
	b := numbered(uint64(x.Op))
	for i, n := range []int64{x.A, x.B} {
		switch kind := chapter()[x.Op].kinds[i]; {
		case kind == api.OperandNumber && n < 0:
			b = append(b, numbered(uint64(-(n+1))*2+1)...)
		case kind == api.OperandNumber:
			b = append(b, numbered(uint64(n)*2)...)
		case kind != api.OperandNone:
			b = append(b, numbered(uint64(n))...)
		}
	}
	return b
}

// effectOf are the types that the chapter tells of letters, with the one that an instruction names for T.
func effectOf(x api.Instr, letters string) []int {
	named := x.A
	if chapter()[x.Op].kinds[1] == api.OperandHeld {
		named = x.B
	}
	var l []int
	for _, letter := range letters {
		if letter == 'T' {
			l = append(l, int(named))
			continue
		}
		l = append(l, 1+strings.IndexRune("IRFP", letter))
	}
	return l
}

// The chapter's numbers are api's: what the tests put together says the same as its constants.
func TestP4_1Numbers(t *testing.T) {
	if len(chapter()) != api.Ops {
		t.Fatalf("%d ops", len(chapter()))
	}
	ops := map[string]int{
		"nop": api.OpNop, "int": api.OpInt, "zero": api.OpZero, "load": api.OpLoad, "store": api.OpStore, "addr": api.OpAddr,
		"ldp": api.OpLdp, "stp": api.OpStp, "new": api.OpNew, "get": api.OpGet, "set": api.OpSet, "func": api.OpFunc,
		"dup": api.OpDup, "drop": api.OpDrop, "swap": api.OpSwap, "bin": api.OpBin, "un": api.OpUn, "eq": api.OpEq,
		"jmp": api.OpJmp, "jz": api.OpJz, "call": api.OpCall, "calli": api.OpCalli, "defer": api.OpDefer, "deferi": api.OpDeferi,
		"ret": api.OpRet, "panic": api.OpPanic, "recover": api.OpRecover, "goexit": api.OpGoexit, "print": api.OpPrint, "in": api.OpIn,
	}
	for op, row := range chapter() {
		if n, ok := ops[row.name]; !ok || n != op {
			t.Errorf("%s is %d, api says %d", row.name, op, n)
		}
	}
	kinds := []int{api.OperandNone, api.OperandNumber, api.OperandType, api.OperandHeld, api.OperandSlot, api.OperandShape, api.OperandCell, api.OperandFunction, api.OperandBin, api.OperandUn, api.OperandPlace}
	if !slices.Equal(kinds, []int{0, 1, 2, 3, 4, 5, 6, 7, 8, 9, 10}) {
		t.Errorf("kinds %v", kinds)
	}
}
