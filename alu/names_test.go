package alu_test

import (
	"strings"
	"testing"

	"backstay/alu"
	"backstay/api"
)

// binNames, unNames and codeNames are the chapter's, each at its number.
func binNames() []string {
	return []string{"add", "sub", "mul", "div", "rem", "and", "or", "xor", "andnot", "shl", "shr", "lt", "le", "eq"}
}

func unNames() []string {
	return []string{"neg", "not", "zero", "i8", "i16", "i32", "u8", "u16", "u32"}
}

func codeNames() []string {
	return []string{"none", "nil", "div", "index", "shift", "type"}
}

// checkNames holds names to those wanted, and what has none to nothing.
func checkNames(t *testing.T, nameOf func(int) string, want []string) {
	t.Helper()
	for n, name := range want {
		if got := nameOf(n); got != name {
			t.Errorf("of %d: %q, want %q", n, got, name)
		}
	}
	for _, n := range noOps(len(want)) {
		if got := nameOf(n); got != "" {
			t.Errorf("of %d: %q, want nothing", n, got)
		}
	}
}

// P3.2: each operation and each code has its name, and what is none has nothing.
func TestP3_2Names(t *testing.T) {
	t.Run("BinName", func(t *testing.T) { checkNames(t, alu.BinName, binNames()) })
	t.Run("UnName", func(t *testing.T) { checkNames(t, alu.UnName, unNames()) })
	t.Run("CodeName", func(t *testing.T) { checkNames(t, alu.CodeName, codeNames()) })
}

// P3.2: the numbers are api's.
func TestP3_2Numbers(t *testing.T) {
	if len(binNames()) != api.Bins || len(unNames()) != api.Uns || len(codeNames()) != api.Codes {
		t.Fatalf("%d, %d, %d names", len(binNames()), len(unNames()), len(codeNames()))
	}
	for op, name := range map[int]string{
		api.BinAdd: "add", api.BinSub: "sub", api.BinMul: "mul", api.BinDiv: "div", api.BinRem: "rem", api.BinAnd: "and", api.BinOr: "or",
		api.BinXor: "xor", api.BinAndNot: "andnot", api.BinShl: "shl", api.BinShr: "shr", api.BinLt: "lt", api.BinLe: "le", api.BinEq: "eq",
	} {
		if got := alu.BinName(op); got != name {
			t.Errorf("BinName of %d: %q, want %q", op, got, name)
		}
	}
	for op, name := range map[int]string{
		api.UnNeg: "neg", api.UnNot: "not", api.UnZero: "zero", api.UnI8: "i8", api.UnI16: "i16", api.UnI32: "i32", api.UnU8: "u8", api.UnU16: "u16", api.UnU32: "u32",
	} {
		if got := alu.UnName(op); got != name {
			t.Errorf("UnName of %d: %q, want %q", op, got, name)
		}
	}
	for code, name := range map[int]string{
		api.CodeNone: "none", api.CodeNil: "nil", api.CodeDiv: "div", api.CodeIndex: "index", api.CodeShift: "shift", api.CodeType: "type",
	} {
		if got := alu.CodeName(code); got != name {
			t.Errorf("CodeName of %d: %q, want %q", code, got, name)
		}
	}
}

// almost are texts that look like names, but are none's, whatever the list.
func almost(names []string) []string {
	l := []string{"", " ", "x", "none", "nil", "index", "shift", "type", "0", "1", "13", "nop", "int", "i", "u", "i1", "i64", "u64", "i08", "bin", "un", "\x00", "\xff", strings.Repeat("add", 5000)}
	for _, name := range names {
		l = append(l, strings.ToUpper(name), " "+name, name+" ", name+"\n", name+"\x00", name+name, name+".", name[:len(name)-1]+"\xff", "\ufeff"+name)
	}
	return l
}

// checkOf holds operations of names to those wanted, and what is no name to ErrOp.
func checkOf(t *testing.T, opOf func(string) (int, api.Errno), names, others []string) {
	t.Helper()
	for want, name := range names {
		if op, e := opOf(name); op != want || e != api.OK {
			t.Errorf("of %q: %d, error %d; want %d", name, op, e, want)
		}
	}
	for _, name := range others {
		if op, e := opOf(name); op != 0 || e != api.ErrOp {
			t.Errorf("of %q: %d, error %d; want ErrOp", name, op, e)
		}
	}
}

// P3.2: each name has its operation; ErrOp, if there is no such name, or if it stands in the other list alone.
func TestP3_2Of(t *testing.T) {
	t.Run("BinOf", func(t *testing.T) { checkOf(t, alu.BinOf, binNames(), append(almost(binNames()), unNames()...)) })
	t.Run("UnOf", func(t *testing.T) { checkOf(t, alu.UnOf, unNames(), append(almost(unNames()), binNames()...)) })
}

// P3.2: names cut short, or begun later, are none.
func TestP3_2OfPieces(t *testing.T) {
	isName := make(map[string]int)
	for _, name := range append(binNames(), unNames()...) {
		isName[name]++
	}
	for name := range isName {
		for cut := range name {
			for _, piece := range []string{name[:cut], name[cut:]} {
				if isName[piece] > 0 {
					continue
				}
				if op, e := alu.BinOf(piece); op != 0 || e != api.ErrOp {
					t.Errorf("BinOf of %q: %d, error %d", piece, op, e)
				}
				if op, e := alu.UnOf(piece); op != 0 || e != api.ErrOp {
					t.Errorf("UnOf of %q: %d, error %d", piece, op, e)
				}
			}
		}
	}
}

// P3.2: each operation that has a name is one, and its name's.
func TestP3_2NamesAndOps(t *testing.T) {
	for op := -300; op <= 300; op++ {
		_, _, e := alu.Binary(op, 1, 1)
		if (alu.BinName(op) != "") != (e == api.OK) {
			t.Errorf("op %d of two: error %d, name %q", op, e, alu.BinName(op))
		}
		if back, f := alu.BinOf(alu.BinName(op)); e == api.OK && (back != op || f != api.OK) {
			t.Errorf("%q is %d, error %d; want %d", alu.BinName(op), back, f, op)
		}
		_, e = alu.Unary(op, 1)
		if (alu.UnName(op) != "") != (e == api.OK) {
			t.Errorf("op %d of one: error %d, name %q", op, e, alu.UnName(op))
		}
		if back, f := alu.UnOf(alu.UnName(op)); e == api.OK && (back != op || f != api.OK) {
			t.Errorf("%q is %d, error %d; want %d", alu.UnName(op), back, f, op)
		}
	}
}
