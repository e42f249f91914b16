package asm_test

import (
	"fmt"
	"strconv"
	"strings"
	"testing"

	"backstay/api"
	"backstay/asm"
)

// P9.1: what all kinds of lines say, written out.
func TestP9_1WrittenOut(t *testing.T) {
	says(t, `
shape IRF
shape R		; of one cell

func main P>I	; the first one
local FI
	int -5
again:
	jz out
	call	second
	func main ; itself
	calli 1
	jmp again
out:
	get 15 F
	ret
func second >
again:
	defer third
	deferi main
	jmp again
func third II>RF
	goexit`, api.Image{
		Shapes: []api.Shape{{api.TypeI, api.TypeR, api.TypeF}, {api.TypeR}},
		Functions: []api.Function{
			{Name: "main", Sig: api.Signature{Args: []int{api.TypeP}, Results: []int{api.TypeI}}, Locals: []int{api.TypeF, api.TypeI}, Body: []api.Instr{
				{Op: api.OpInt, A: -5}, {Op: api.OpJz, A: 6}, {Op: api.OpCall, A: 1}, {Op: api.OpFunc}, {Op: api.OpCalli, A: 1}, {Op: api.OpJmp, A: 1}, {Op: api.OpGet, A: 15, B: api.TypeF}, ret(),
			}},
			plain("second", api.Instr{Op: api.OpDefer, A: 2}, api.Instr{Op: api.OpDeferi}, api.Instr{Op: api.OpJmp}),
			{Name: "third", Sig: api.Signature{Args: []int{api.TypeI, api.TypeI}, Results: []int{api.TypeR, api.TypeF}}, Body: []api.Instr{{Op: api.OpGoexit}}},
		},
	})
}

// operandsOf are words that a kind of operands may have, with the numbers that they say; and some that it may not.
func operandsOf(kind string) (may map[string]int64, not []string) {
	digits := func(most int64) (map[string]int64, []string) {
		l := map[string]int64{"0": 0, "1": 1, "9": 9, "10": 10, strconv.FormatInt(most, 10): most}
		return l, []string{strconv.FormatInt(most+1, 10), "-1", "+1", "00", "01", "-0", "1x", "0x1", "1_0", "_", "9223372036854775808", "18446744073709551616", "\u0661"}
	}
	switch kind {
	case "n":
		return map[string]int64{"0": 0, "-1": -1, "9223372036854775807": 1<<63 - 1, "-9223372036854775808": -1 << 63}, []string{"9223372036854775808", "-9223372036854775809", "-0", "+1", "01", "x", "1.0", "--1", "-"}
	case "t":
		return map[string]int64{"I": 1, "R": 2, "F": 3, "P": 4}, []string{"1", "i", "X", "II", "0", "\u0406"}
	case "h":
		return map[string]int64{"I": 1, "R": 2, "F": 3}, []string{"P", "1", "r", "IR"}
	case "s", "o":
		return digits(63)
	case "c":
		return digits(15)
	case "f":
		return digits(63)
	case "p":
		return digits(511)
	case "b":
		return map[string]int64{"add": 0, "sub": 1, "mul": 2, "div": 3, "rem": 4, "and": 5, "or": 6, "xor": 7, "andnot": 8, "shl": 9, "shr": 10, "lt": 11, "le": 12, "eq": 13}, []string{"0", "neg", "ADD", "ne", "nil"}
	}
	return map[string]int64{"neg": 0, "not": 1, "zero": 2, "i8": 3, "i16": 4, "i32": 5, "u8": 6, "u16": 7, "u32": 8}, []string{"0", "add", "i64", "I8", "div"}
}

// texts are an instruction's, by its operands' kinds: such as may be, each with what it says, and such as may not.
func texts(op int, kinds []string) (may map[string]api.Instr, not []string) {
	if len(kinds) == 1 {
		return map[string]api.Instr{kinds[0]: {Op: op}}, []string{kinds[0] + " 0", kinds[0] + " x", kinds[0] + ":x", strings.ToUpper(kinds[0]), kinds[0] + " I I"}
	}
	may = map[string]api.Instr{}
	words, other := operandsOf(kinds[1])
	not = []string{kinds[0], kinds[0] + leastOf(words) + leastOf(words) + leastOf(words)}
	for _, word := range other {
		not = append(not, kinds[0]+" "+word)
	}
	for word, n := range words {
		text := kinds[0] + " " + word
		if len(kinds) == 2 {
			may[text] = api.Instr{Op: op, A: n}
			not = append(not, text+" 0", text+" x", text+":")
			continue
		}
		not = append(not, text)
		second, others := operandsOf(kinds[2])
		for w, m := range second {
			may[text+" "+w] = api.Instr{Op: op, A: n, B: m}
			not = append(not, text+" "+w+" 0", w+" "+text)
		}
		for _, w := range others {
			not = append(not, text+" "+w)
		}
	}
	return may, not
}

// leastOf is a blank, and the least one of some words.
func leastOf(words map[string]int64) string {
	least := "~"
	for w := range words {
		least = min(least, w)
	}
	return " " + least
}

// P9.1: each instruction's text is read, with the words parted by whatever blanks and tabs; what is none is ErrLine.
func TestP9_1Instructions(t *testing.T) {
	var places strings.Builder
	for range 511 {
		places.WriteString("nop\n")
	}
	read, refused := 0, 0
	for op, text := range operands() {
		may, not := texts(op, strings.Split(text, " "))
		for text, x := range may {
			read++
			for _, parted := range []string{text, " " + text, "\t" + text + " ", strings.ReplaceAll(text, " ", "  "), strings.ReplaceAll(text, " ", "\t \t"), text + ";" + text, text + " ; ; x"} {
				// So that each place may be gone to, it is the first one of 512.
				p, line, e := asm.Parse("func main >\n" + parted + "\n" + places.String()[4:] + "ret")
				if line != 0 || e != api.OK || len(p.Functions) != 1 || len(p.Functions[0].Body) != 512 || p.Functions[0].Body[0] != x {
					t.Fatalf("%q: %v, line %d, error %d; want %v", parted, p, line, e, x)
				}
			}
		}
		for _, text := range not {
			refused++
			wrong(t, "func main >\nint 1\n"+text+"\nret", 3, api.ErrLine)
		}
	}
	if read < 100 || refused < 500 {
		t.Errorf("%d were read, %d were not", read, refused)
	}
}

// P9.1: a text has at most MaxText bytes; of one that is longer ErrText in line 0 is told, whatever else is wrong.
func TestP9_1MaxText(t *testing.T) {
	const text = "func main >\nret\n"
	main := image(plain("main", ret()))
	for _, with := range []string{" ", "\t", "\n", ";", "x", "\x00", "\xff"} {
		whole := text + strings.Repeat(with, api.MaxText-len(text))
		if with == "x" || with == "\x00" || with == "\xff" {
			whole = text + ";" + strings.Repeat(with, api.MaxText-len(text)-1)
		}
		if len(whole) != 131072 {
			t.Fatalf("%d bytes", len(whole))
		}
		says(t, whole, main)
		says(t, whole[:len(whole)-1], main)
		wrong(t, whole+with, 0, api.ErrText)
		wrong(t, whole+"\n", 0, api.ErrText)
		wrong(t, strings.Repeat(whole, 3), 0, api.ErrText)
	}
	// What is counted is bytes, not runes.
	wrong(t, text+";"+strings.Repeat("\u00e9", (api.MaxText-len(text))/2), 0, api.ErrText)
	for _, s := range []string{"wrong\n", "ret\n", "func main >\njmp x\n", "func main >\ncall x\n", "func main >\na:\na:\n", "func main >\n", ""} {
		wrong(t, s+strings.Repeat(" ", api.MaxText+1-len(s)), 0, api.ErrText)
		wrong(t, strings.Repeat("\n", api.MaxText+1-len(s))+s, 0, api.ErrText)
	}
	wrong(t, strings.Repeat("\n", api.MaxText-5)+"wrong", api.MaxText-4, api.ErrLine)
}

// P9.1: the last line may lack its line feed, or have it; each kind of line may be the last one.
func TestP9_1LastLine(t *testing.T) {
	for _, text := range []string{"func main >\nret", "func main >\nret\nend:", "func main >\nret\n;", "func main >\nret\n \t", "func main >\nret\n\n\n"} {
		says(t, text, image(plain("main", ret())))
		says(t, text+"\n", image(plain("main", ret())))
		says(t, text+"\n\n", image(plain("main", ret())))
	}
	wrong(t, "func main >\nret\nx", 3, api.ErrLine)
	wrong(t, "func main >\nret\nx\n", 3, api.ErrLine)
	wrong(t, "func main >\ncall x", 2, api.ErrRef)
	wrong(t, "func main >\ncall x\n", 2, api.ErrRef)
	wrong(t, "func main >\na:\na:", 3, api.ErrLabel)
	wrong(t, "func main >\na:\na:\n", 3, api.ErrLabel)
	wrong(t, "func main >\nret\nfunc f >", 0, api.ErrText)
	wrong(t, "func main >\nret\nfunc f >\n", 0, api.ErrText)
}

// P9.1: a text without a function says no image that may be.
func TestP9_1NoText(t *testing.T) {
	for _, text := range []string{"", "\n", "\n\n\n", " ", "\t", ";", "; func main >", " \t\n;\n \t;x\n", "shape I", "shape I\n", "shape I\nshape RF\n"} {
		wrong(t, text, 0, api.ErrText)
	}
}

// P9.1: notes, and lines without words, say nothing wherever they stand, but are counted.
func TestP9_1LinesWithoutWords(t *testing.T) {
	for _, s := range []string{"", " ", "\t", " \t \t ", ";", ";;", "; x", " ;", "\t;func f >", ";\xff\xfe", ";\x00", "; ret ; ret", ";\r"} {
		for n := range 4 {
			more := strings.Repeat(s+"\n", n)
			says(t, more+"shape I\n"+more+"func main >\n"+more+"local I\n"+more+"a:\n"+more+"jmp a\n"+more, api.Image{
				Shapes:    []api.Shape{{api.TypeI}},
				Functions: []api.Function{{Name: "main", Locals: []int{api.TypeI}, Body: []api.Instr{{Op: api.OpJmp}}}},
			})
			wrong(t, more+"x\n"+more, n+1, api.ErrLine)
			wrong(t, "func main >\n"+more+"jmp x\n"+more, n+2, api.ErrLabel)
			wrong(t, "func main >\n"+more+"call x\n"+more, n+2, api.ErrRef)
		}
	}
}

// P9.1: what else stands between words, or ahead of them, is part of a word.
func TestP9_1OtherBlanks(t *testing.T) {
	for _, s := range []string{"\r", "\v", "\f", "\x00", "\u0085", "\u00a0", "\u2003", "\u3000", "\ufeff", "\xff", "\\", ",", "/", "#", "//"} {
		for _, text := range []string{"ret" + s, s + "ret", "int" + s + "1", "int 1" + s, "int " + s + "1", s, "a:" + s, s + "a:", "a" + s + ":"} {
			wrong(t, "func main >\n"+text+"\nret\n", 2, api.ErrLine)
		}
		wrong(t, "func main >"+s+"\nret\n", 1, api.ErrLine)
		wrong(t, "func main"+s+">\nret\n", 1, api.ErrLine)
		wrong(t, "func"+s+"main >\nret\n", 1, api.ErrLine)
		wrong(t, "shape I"+s+"\nfunc main >\nret\n", 1, api.ErrLine)
	}
}

// P9.1: shapes, up to the greatest one, and the most; what is no shape's text is ErrLine, too many shapes are ErrText.
func TestP9_1Shapes(t *testing.T) {
	for _, s := range []string{"I", "R", "F", "IR", "FRI", strings.Repeat("IRF", 5), strings.Repeat("FRRI", 4)} {
		says(t, "shape "+s+"\nfunc main >\nret", api.Image{Shapes: []api.Shape{typed(s)}, Functions: []api.Function{plain("main", ret())}})
		says(t, "\tshape\t"+s+"\t;\nshape I\nfunc main >\nret", api.Image{Shapes: []api.Shape{typed(s), typed("I")}, Functions: []api.Function{plain("main", ret())}})
	}
	for _, s := range []string{"shape", "shape P", "shape IP", "shape X", "shape i", "shape I I", "shape I R", "shape 1", "shape >", "shape I>", "shape I:", "shape:", "Shape I", "SHAPE I", "shapes I", "shape " + strings.Repeat("I", 17), "shape " + strings.Repeat("I", 1025), "shapeI", "I shape"} {
		wrong(t, s+"\nfunc main >\nret", 1, api.ErrLine)
		wrong(t, "shape I\n"+s+"\nfunc main >\nret", 2, api.ErrLine)
	}
	for n := range 70 {
		text := strings.Repeat("shape IR\n", n) + "func main >\nret\n"
		if n > 64 {
			wrong(t, text, 0, api.ErrText)
		} else if p := agrees(t, text).p; len(p.Shapes) != n {
			t.Errorf("%d shapes: %d", n, len(p.Shapes))
		}
	}
}

// P9.1: shapes stand ahead of all functions.
func TestP9_1ShapesBehind(t *testing.T) {
	for _, s := range []string{"func main >\n", "func main >\nlocal I\n", "func main >\na:\n", "func main >\nnop\n", "func main >\nret\n", "func main >\nret\nfunc f >\nret\n"} {
		wrong(t, s+"shape I\nret\n", strings.Count(s, "\n")+1, api.ErrLine)
		wrong(t, "shape I\n"+s+"shape I\nret\n", strings.Count(s, "\n")+2, api.ErrLine)
	}
}

// P9.1: a function's beginning: its name, and its signature's text; what is none is ErrLine.
func TestP9_1Functions(t *testing.T) {
	for _, name := range []string{"a", "Z", "main", "a0", "a9z", "func", "shape", "local", "ret", "jmp", "I", strings.Repeat("x", 32)} {
		for _, sig := range []string{">", "I>", ">I", "IRFP>IRF", strings.Repeat("P", 64) + ">", ">" + strings.Repeat("R", 64), strings.Repeat("PF", 16) + ">" + strings.Repeat("IR", 16)} {
			at := strings.Index(sig, ">")
			says(t, "func "+name+" "+sig+"\nret", image(api.Function{Name: name, Sig: api.Signature{Args: typed(sig[:at]), Results: typed(sig[at+1:])}, Body: []api.Instr{ret()}}))
		}
	}
	for _, s := range []string{
		"func", "func main", "func >", "func main > >", "func main >I I", "func main I >", "func main > I", "func main main >", "func > main",
		"func 0 >", "func 1a >", "func a_b >", "func a.b >", "func a: >", "func \u00e9 >", "func \xff >", "func a\x00 >", "func " + strings.Repeat("x", 33) + " >",
		"func main I", "func main I>P", "func main >>", "func main I>I>", "func main X>", "func main i>", "func main >X", "func main -", "func main >P",
		"func main " + strings.Repeat("I", 65) + ">", "func main >" + strings.Repeat("I", 65), "func main " + strings.Repeat("I", 33) + ">" + strings.Repeat("I", 32),
		"Func main >", "FUNC main >", "function main >", "funcmain >", "func main>", "func: main >", "main func >", "main >",
	} {
		wrong(t, s+"\nret", 1, api.ErrLine)
		if s != "func main" { // which names a function, behind one's beginning
			wrong(t, "func main >\nret\n"+s+"\nret", 3, api.ErrLine)
		}
	}
}

// P9.1: functions up to the most; too many are ErrText, so are those without instructions, or of one name.
func TestP9_1FunctionsMost(t *testing.T) {
	for n := range 70 {
		var b strings.Builder
		for i := range n {
			fmt.Fprintf(&b, "func f%d >\ncall f%d\nret\n", i, n-1-i)
		}
		switch text := b.String(); {
		case n < 1 || n > 64:
			wrong(t, text, 0, api.ErrText)
		case agrees(t, text).e != api.OK:
			t.Errorf("%d functions are none", n)
		}
	}
	wrong(t, "func f >", 0, api.ErrText)
	wrong(t, "func f >\nfunc g >\nret", 0, api.ErrText)
	wrong(t, "func f >\nret\nfunc g >\nlocal I\nend:\n", 0, api.ErrText)
	wrong(t, "func f >\nret\nfunc f >\nret", 0, api.ErrText)
	wrong(t, "func f I>\nret\nfunc g >\nret\nfunc f >I\ngoexit", 0, api.ErrText)
	says(t, "func f >\nret\nfunc F >\nret", image(plain("f", ret()), plain("F", ret())))
}

// P9.1: a function's locals: once, ahead of its labels and instructions, of letters of types, one at least.
func TestP9_1Locals(t *testing.T) {
	for _, s := range []string{"I", "R", "F", "P", "IRFP", "PPPI", strings.Repeat("P", 64)} {
		f := api.Function{Name: "main", Locals: typed(s), Body: []api.Instr{ret()}}
		says(t, "func main >\nlocal "+s+"\nret", image(f))
		says(t, "func main >\n;\n\n\tlocal\t"+s+" ; l\nret", image(f))
		says(t, "func f >\nret\nfunc main >\nlocal "+s+"\nret", image(plain("f", ret()), f))
	}
	for _, s := range []string{"local", "local ", "local ; I", "local X", "local IX", "local i", "local 1", "local I R", "local I I", "local >", "local I>", "local:I", "local I:", "Local I", "locals I", "localI", "local \xff"} {
		wrong(t, "func main >\n"+s+"\nret", 2, api.ErrLine)
	}
	for _, s := range []string{"local I\n", "local I\n\n;\n", "a:\n", "nop\n", "a:\nnop\n", "local I\na:\n", "local R\nnop\n", "int 1\njz a\na:\n", "ret\n", "call main\n"} {
		wrong(t, "func main >\n"+s+"local I\na:\nret\n", strings.Count(s, "\n")+2, api.ErrLine)
	}
	for _, s := range []string{"", "shape I\n", ";\n"} {
		wrong(t, s+"local I\nfunc main >\nret", strings.Count(s, "\n")+1, api.ErrLine)
	}
	// Each function may have its own.
	says(t, "func f >\nlocal I\nret\nfunc g >\nlocal R\nret", image(
		api.Function{Name: "f", Locals: typed("I"), Body: []api.Instr{ret()}}, api.Function{Name: "g", Locals: typed("R"), Body: []api.Instr{ret()}}))
	// Slots that are too many are no matter of the line.
	for n := 60; n < 70; n++ {
		for _, sig := range []string{">", "I>", ">I", "II>II"} {
			text := "func main " + sig + "\nlocal " + strings.Repeat("I", n) + "\nret"
			if n+len(sig)-1 > 64 {
				wrong(t, text, 0, api.ErrText)
			} else if agrees(t, text).e != api.OK {
				t.Errorf("%d locals, %s: none", n, sig)
			}
		}
	}
	// More letters than MaxTypes are no list's text.
	wrong(t, "func main >\nlocal "+strings.Repeat("I", 1024)+"\nret", 0, api.ErrText)
	wrong(t, "func main >\nlocal "+strings.Repeat("I", 1025)+"\nret", 2, api.ErrLine)
}

// P9.1: before any function there are no labels and no instructions.
func TestP9_1AheadOfFunctions(t *testing.T) {
	for _, s := range []string{"a:", "ret", "int 1", "jmp a", "call main", "func main", "func 0", "nop", "local I"} {
		wrong(t, s, 1, api.ErrLine)
		wrong(t, s+"\nfunc main >\na:\nret", 1, api.ErrLine)
		wrong(t, "shape I\n\n"+s+"\nfunc main >\na:\nret", 3, api.ErrLine)
	}
}

// P9.1: a body that may not be is ErrText in line 0.
func TestP9_1Bodies(t *testing.T) {
	for n := 508; n < 516; n++ {
		text := "func main >\n" + strings.Repeat("nop\n", n-1) + "ret\n"
		if n > 512 {
			wrong(t, text, 0, api.ErrText)
		} else if p := agrees(t, text).p; len(p.Functions) != 1 || len(p.Functions[0].Body) != n {
			t.Errorf("%d instructions: %v", n, p)
		}
	}
	for _, s := range []string{"nop", "int 1", "jz 0", "call main", "ret\nnop", "jmp 1", "jmp 511", "jz 2\nret", "func 0", "recover"} {
		wrong(t, "func main >\n"+s+"\n", 0, api.ErrText)
		wrong(t, "func main >\nret\nfunc f >\n"+s+"\n", 0, api.ErrText)
	}
	for _, s := range []string{"ret", "panic", "goexit", "jmp 0", "jmp main0\nmain0:\nret"} {
		if agrees(t, "func main >\n"+s+"\n").e != api.OK {
			t.Errorf("%s: none", s)
		}
	}
}
