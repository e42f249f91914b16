package opcode_test

import (
	"strings"
	"testing"

	"backstay/api"
	"backstay/opcode"
)

// P4.4: its name, and each operand that there is; nothing, unless it may be.
func TestP4_4Show(t *testing.T) {
	for _, x := range mayBe() {
		if got := opcode.Show(x); got != textOf(x) {
			t.Errorf("%v: %q, want %q", x, got, textOf(x))
		}
	}
	for _, x := range mayNotBe() {
		if got := opcode.Show(x); got != "" {
			t.Errorf("%v: %q, want nothing", x, got)
		}
	}
}

// P4.4: texts, written out, are shown and read.
func TestP4_4WrittenOut(t *testing.T) {
	for text, x := range map[string]api.Instr{
		"nop":                      {Op: api.OpNop},
		"int 0":                    {Op: api.OpInt},
		"int 7":                    {Op: api.OpInt, A: 7},
		"int -5":                   {Op: api.OpInt, A: -5},
		"int 1000":                 {Op: api.OpInt, A: 1000},
		"int -9223372036854775808": {Op: api.OpInt, A: -1 << 63},
		"int 9223372036854775807":  {Op: api.OpInt, A: 1<<63 - 1},
		"zero P":                   {Op: api.OpZero, A: api.TypeP},
		"load 0":                   {Op: api.OpLoad},
		"store 63":                 {Op: api.OpStore, A: 63},
		"addr 10":                  {Op: api.OpAddr, A: 10},
		"ldp":                      {Op: api.OpLdp},
		"stp":                      {Op: api.OpStp},
		"new 63":                   {Op: api.OpNew, A: 63},
		"get 2 I":                  {Op: api.OpGet, A: 2, B: api.TypeI},
		"set 15 F":                 {Op: api.OpSet, A: 15, B: api.TypeF},
		"func 9":                   {Op: api.OpFunc, A: 9},
		"dup":                      {Op: api.OpDup},
		"drop":                     {Op: api.OpDrop},
		"swap":                     {Op: api.OpSwap},
		"bin add":                  {Op: api.OpBin, A: api.BinAdd},
		"bin andnot":               {Op: api.OpBin, A: api.BinAndNot},
		"bin eq":                   {Op: api.OpBin, A: api.BinEq},
		"un neg":                   {Op: api.OpUn, A: api.UnNeg},
		"un i8":                    {Op: api.OpUn, A: api.UnI8},
		"un u32":                   {Op: api.OpUn, A: api.UnU32},
		"eq R":                     {Op: api.OpEq, A: api.TypeR},
		"jmp 0":                    {Op: api.OpJmp},
		"jz 511":                   {Op: api.OpJz, A: 511},
		"call 1":                   {Op: api.OpCall, A: 1},
		"calli 2":                  {Op: api.OpCalli, A: 2},
		"defer 3":                  {Op: api.OpDefer, A: 3},
		"deferi 63":                {Op: api.OpDeferi, A: 63},
		"ret":                      {Op: api.OpRet},
		"panic":                    {Op: api.OpPanic},
		"recover":                  {Op: api.OpRecover},
		"goexit":                   {Op: api.OpGoexit},
		"print":                    {Op: api.OpPrint},
		"in":                       {Op: api.OpIn},
	} {
		if got := opcode.Show(x); got != text {
			t.Errorf("%v: %q, want %q", x, got, text)
		}
		if got, e := opcode.Read(text); got != x || e != api.OK {
			t.Errorf("%q: %v, error %d; want %v", text, got, e, x)
		}
	}
}

// P4.4: each text that the chapter tells is read.
func TestP4_4Read(t *testing.T) {
	for _, x := range mayBe() {
		if got, e := opcode.Read(textOf(x)); got != x || e != api.OK {
			t.Errorf("%q: %v, error %d; want %v", textOf(x), got, e, x)
		}
	}
}

// isNoText holds a text to being none's.
func isNoText(t *testing.T, s string) {
	t.Helper()
	if x, e := opcode.Read(s); x != (api.Instr{}) || e != api.ErrOpcode {
		t.Errorf("%q: %v, error %d; want ErrOpcode", s, x, e)
	}
}

// P4.4: of each text, those with a blank or an operand too many or too few, other letters, signs or zeros are none.
func TestP4_4ReadOfAlmost(t *testing.T) {
	for _, x := range mayBe() {
		s := textOf(x)
		for _, almost := range []string{" " + s, s + " ", "  " + s, s + "  ", "\t" + s, s + "\t", s + "\n", s + "\r\n", s + "\x00", "\ufeff" + s, s + ";", s + " ;", s + ",", s + " 0", s + " 1", s + " I", s + " add", s + " nop", strings.ToUpper(s) + "x"} {
			isNoText(t, almost)
		}
		if strings.ToUpper(s) != s {
			isNoText(t, strings.ToUpper(s))
		}
		name, rest, some := strings.Cut(s, " ")
		if !some {
			continue
		}
		for _, almost := range []string{name, name + " ", name + rest, name + "\t" + rest, name + "\u00a0" + rest, name + ", " + rest, strings.ReplaceAll(s, " ", "  "), strings.ReplaceAll(s, " ", " \t"), name + " +" + rest, name + " 0" + rest, name + " - " + rest, name + " --" + rest, name + " q" + rest, name + " " + rest + ".", name + " " + rest + "_0", name + " #" + rest, "x" + s, name + "x " + rest} {
			isNoText(t, almost)
		}
	}
}

// P4.4: of numbers there is one form, within 64 bits.
func TestP4_4ReadOfNumbers(t *testing.T) {
	for _, n := range []string{"", "-", "+", "+0", "-0", "00", "01", "007", "-01", "+1", "--1", "1-", "0x1", "0b1", "0o7", "1_000", "1e3", "1.0", "1,000", " 1", "one", "I", "nil", "#1", "@1", "L0", "\u0661", "\uff11",
		"9223372036854775808", "-9223372036854775809", "18446744073709551615", "99999999999999999999", "-99999999999999999999", strings.Repeat("9", 10000), strings.Repeat("0", 10000)} {
		isNoText(t, "int "+n)
		isNoText(t, "jmp "+n)
		isNoText(t, "get "+n+" I")
	}
}

// P4.4: operands beyond their ranges have no text, nor has one below 0, but of int.
func TestP4_4ReadOfRanges(t *testing.T) {
	for _, s := range []string{
		"load 64", "store 64", "addr 64", "load -1", "store -1", "addr -1", "load 256", "load 4294967296", "load 18446744073709551616",
		"new 64", "new -1", "get 16 I", "get -1 I", "set 16 I", "set -1 R", "get 2 P", "set 2 P", "get 0 X", "get 0 i", "get 0 1", "get 0 II", "get I 0", "get I", "get 2", "set 2", "set F", "get 2 I F", "get 2 I 0",
		"func 64", "func -1", "call 64", "calli 64", "defer 64", "deferi 64", "call -1", "calli -1", "defer -1", "deferi -1", "call main", "func main",
		"jmp 512", "jz 512", "jmp -1", "jz -1", "jmp top", "jz L0", "jmp", "jz",
		"bin", "bin x", "bin neg", "bin i8", "bin 0", "bin 13", "bin Add", "bin add add", "bin none", "bin nil", "bin ",
		"un", "un x", "un add", "un eq", "un 0", "un I8", "un i64", "un u64", "un none", "un ",
		"zero", "zero X", "zero i", "zero 1", "zero IR", "zero nil", "zero ", "eq", "eq X", "eq p", "eq 4", "eq PP", "eq ", "eq I I", "eq IRFP",
		"eq " + strings.Repeat("I", 1024), "eq " + strings.Repeat("I", 5000),
		"nop 0", "ret 0", "ret 1", "dup I", "in 0", "print 7", "panic 1", "recover 0", "goexit 0", "ldp 0", "stp 0", "drop 0", "swap 0",
	} {
		isNoText(t, s)
	}
}

// P4.4: what begins with no op's name is no text, whatever is behind it.
func TestP4_4ReadOfNoName(t *testing.T) {
	isText := make(map[string]int)
	for _, x := range mayBe() {
		isText[textOf(x)]++
	}
	for _, name := range noNames() {
		for _, rest := range []string{"", " 0", " 2 I", " I", " add", " "} {
			// Some are a name with the operand that belongs to it.
			if isText[name+rest] == 0 {
				isNoText(t, name+rest)
			}
		}
	}
}
