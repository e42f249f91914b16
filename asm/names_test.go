package asm_test

import (
	"fmt"
	"strings"
	"testing"

	"backstay/api"
)

// P9.1: labels ahead of what jumps to them, behind it, several at one place, and such as nobody jumps to.
func TestP9_1Labels(t *testing.T) {
	jmp := func(to int64) api.Instr { return api.Instr{Op: api.OpJmp, A: to} }
	jz := func(to int64) api.Instr { return api.Instr{Op: api.OpJz, A: to} }
	in := api.Instr{Op: api.OpIn}
	for text, body := range map[string][]api.Instr{
		"a:\njmp a":                        {jmp(0)},
		"jmp a\na:\nret":                   {jmp(1), ret()},
		"in\na:\nin\njz a\njz b\nb:\nret":  {in, in, jz(1), jz(4), ret()},
		"jmp c\na:\nb:\nc:\nret\njmp a":    {jmp(1), ret(), jmp(1)},
		"jmp a\nret\njz a\na:\njmp a\n":    {jmp(3), ret(), jz(3), jmp(3)},
		"a:\nb:\nret":                      {ret()},
		"ret\nend:":                        {ret()},
		"ret:\njmp ret":                    {jmp(0)},
		"shape:\nfunc:\nlocal:\njmp local": {jmp(0)},
		"jmp:\nin\njz jmp\nI:\njmp I":      {in, jz(0), jmp(2)},
		"a:\nin\nA:\njz a\njmp A":          {in, jz(0), jmp(1)},
		"in\nL1:\njz 0\njmp L1":            {in, jz(0), jmp(1)},
		"main:\njmp main":                  {jmp(0)},
		strings.Repeat("x", 32) + ":\njmp " + strings.Repeat("x", 32): {jmp(0)},
	} {
		says(t, "func main >\n"+text, image(plain("main", body...)))
	}
	for place := range 512 {
		text := "func main >\njz a\n" + strings.Repeat("nop\n", max(place-1, 0)) + "a:\n" + strings.Repeat("nop\n", 510-max(place-1, 0)) + "ret\n"
		if p := agrees(t, text).p; len(p.Functions) != 1 || p.Functions[0].Body[0] != jz(int64(max(place, 1))) {
			t.Fatalf("a label at %d: %v", place, p)
		}
	}
}

// P9.1: a label at its function's end is one; but there is nothing to jump to.
func TestP9_1LabelAtTheEnd(t *testing.T) {
	says(t, "func main >\nret\nend:\nfunc f >\nend:\njmp end", image(plain("main", ret()), plain("f", api.Instr{Op: api.OpJmp})))
	wrong(t, "func main >\njmp end\nend:", 0, api.ErrText)
	wrong(t, "func main >\njz end\nret\nend:\nfunc f >\nret\n", 0, api.ErrText)
	wrong(t, "func main >\njmp end\n"+strings.Repeat("nop\n", 510)+"ret\nend:", 0, api.ErrText)
	wrong(t, "func main >\njmp end\n"+strings.Repeat("nop\n", 511)+"ret\nend:", 0, api.ErrText)
}

// P9.1: what is no label's word is none.
func TestP9_1NoLabels(t *testing.T) {
	for _, s := range []string{
		":", "::", "a::", ":a", "a:b", "a:b:", "a :", "a: :", ": a", "0:", "1a:", "a_b:", "a-b:", "a.b:", "\u00e9:", "\xff:", "a\x00:", "-:", "@a:", "a", strings.Repeat("x", 33) + ":",
		"a: ret", "a: b:", "a:ret", "ret a:", "ret:ret", "label a", "a :;",
	} {
		wrong(t, "func main >\n"+s+"\nret", 2, api.ErrLine)
	}
	says(t, "func main >\na: ; x\n b:\t\nc:;c:\njmp c", image(plain("main", api.Instr{Op: api.OpJmp})))
}

// P9.1: ErrLabel of a label that its function has in a line ahead, in the line of the second one; another function may have it.
func TestP9_1LabelTwice(t *testing.T) {
	wrong(t, "func main >\na:\na:\nret", 3, api.ErrLabel)
	wrong(t, "func main >\na:\nret\n\na: ; again\n", 5, api.ErrLabel)
	wrong(t, "func main >\na:\nb:\nb:\na:\nret", 4, api.ErrLabel)
	wrong(t, "func main >\na:\na:\na:\nret", 3, api.ErrLabel)
	wrong(t, "func main >\na:\nret\nfunc f >\na:\nret\na:\n", 7, api.ErrLabel)
	// Functions of one name are two.
	wrong(t, "func main >\na:\njmp a\nfunc main >\na:\njmp a", 0, api.ErrText)
	jmp := api.Instr{Op: api.OpJmp}
	says(t, "func main >\na:\njmp a\nfunc f >\nnop\na:\njmp a", image(plain("main", jmp), plain("f", api.Instr{}, api.Instr{Op: api.OpJmp, A: 1})))
	says(t, "func main >\na:\nA:\nab:\naB:\njmp A", image(plain("main", jmp)))
}

// P9.1: ErrLabel of a name in jmp or jz that is no label's of that function.
func TestP9_1NoSuchLabel(t *testing.T) {
	for _, op := range []string{"jmp", "jz"} {
		for _, name := range []string{"x", "main", "f", "A", "aa", "b", "L0", "ret", "jmp", "I", strings.Repeat("a", 32)} {
			wrong(t, "func main >\na:\n"+op+" "+name+"\nret\nfunc f >\nb:\nx0:\nret", 3, api.ErrLabel)
			wrong(t, "func f >\nb:\nx0:\nret\nfunc main >\n"+op+" "+name+"\na:\nret", 6, api.ErrLabel)
		}
		// What is no name is no label's, and no number.
		for _, word := range []string{"a:", ":", "1a", "-1", "01", "512", "a_b", "\u00e9", "a\xff", ">", strings.Repeat("a", 33), "a a"} {
			wrong(t, "func main >\na:\n"+op+" "+word+"\nret", 3, api.ErrLine)
		}
	}
}

// P9.1: functions are named ahead of their lines, and behind them, in all instructions that have one; ErrRef of a name that is none's.
func TestP9_1References(t *testing.T) {
	for name, op := range map[string]int{"call": api.OpCall, "calli": api.OpCalli, "defer": api.OpDefer, "deferi": api.OpDeferi, "func": api.OpFunc} {
		to := func(n int64) api.Instr { return api.Instr{Op: op, A: n} }
		says(t, fmt.Sprintf("func main >\n%[1]s f\n%[1]s main\n%[1]s 63\n%[1]s g\n%[1]s 0\nret\nfunc f >\n%[1]s g\n%[1]s f\n%[1]s main\nret\nfunc g >\n%[1]s func\nret\nfunc func >\nret", name),
			image(plain("main", to(1), to(0), to(63), to(2), to(0), ret()), plain("f", to(2), to(1), to(0), ret()), plain("g", to(3), ret()), plain("func", ret())))
		for _, other := range []string{"x", "F", "ff", "a", "Main", "func", "ret", "I", strings.Repeat("f", 32)} {
			wrong(t, "func main >\na:\n"+name+" "+other+"\nret\nfunc f >\nret", 3, api.ErrRef)
			wrong(t, "func f >\nret\n\nfunc main >\na:\n"+name+" "+other+"\nret", 6, api.ErrRef)
		}
		for _, word := range []string{"f:", "1f", "-1", "00", "64", "f_", "\u00e9", "f\x00", "@f", "#1", "nil", strings.Repeat("f", 33), "f f"} {
			if word == "nil" { // which is a name as any other
				wrong(t, "func f >\n"+name+" nil\nret", 2, api.ErrRef)
				continue
			}
			wrong(t, "func f >\n"+name+" "+word+"\nret", 2, api.ErrLine)
		}
		// Of functions of one name there is no image; but the name is one's.
		wrong(t, "func f >\n"+name+" f\nret\nfunc f >\nret", 0, api.ErrText)
	}
	// No other operand has names.
	for _, s := range []string{"int f", "zero f", "load f", "store f", "addr f", "new f", "get f I", "set 0 f", "bin f", "un f", "eq f", "ret f", "print f"} {
		wrong(t, "func f >\nf:\n"+s+"\nret", 3, api.ErrLine)
	}
}

// P9.1: a name that is a function's whose number no instruction may have is no ErrRef.
func TestP9_1ReferenceOfTooMany(t *testing.T) {
	var b strings.Builder
	for i := range 70 {
		fmt.Fprintf(&b, "func f%d >\ncall f69\nret\n", i)
	}
	wrong(t, b.String(), 0, api.ErrText)
	wrong(t, b.String()+"call f70\n", 211, api.ErrRef)
}

// P9.1: of several faults ErrLine is told first, then the first one of ErrLabel and ErrRef by their lines, then ErrText of an image that may not be.
func TestP9_1WhichError(t *testing.T) {
	for _, c := range []struct {
		text string
		line int
		e    api.Errno
	}{
		{"func main >\njmp x\nwrong", 3, api.ErrLine},
		{"func main >\ncall x\nwrong", 3, api.ErrLine},
		{"func main >\na:\na:\nwrong", 4, api.ErrLine},
		{"func main >\njmp x\ncall x\na:\na:\nfunc f >\nret\nshape I\nwrong\n", 8, api.ErrLine},
		{"func main >\njmp x\nfunc 0 >\n", 3, api.ErrLine},
		{"func main >\ncall x\nlocal I\n", 3, api.ErrLine},
		{"func main >\njmp 512\njmp x\n", 2, api.ErrLine},
		{"wrong\nwrong\n", 1, api.ErrLine},
		{"func main >\njmp x\ncall x\nret", 2, api.ErrLabel},
		{"func main >\ncall x\njmp x\nret", 2, api.ErrRef},
		{"func main >\na:\na:\ncall x\njmp x\nret", 3, api.ErrLabel},
		{"func main >\na:\ncall x\na:\njmp x\nret", 3, api.ErrRef},
		{"func main >\na:\njmp x\na:\ncall x\nret", 3, api.ErrLabel},
		{"func main >\nret\nfunc f >\njz x\nfunc g >\ncall y", 4, api.ErrLabel},
		{"func main >\nret\nfunc f >\ncall x\nfunc g >\na:\na:", 4, api.ErrRef},
		// No image may be: of no instruction, of one name, of an end that does not end, of a place that there is not.
		{"func main >\nfunc f >\ncall x\n", 3, api.ErrRef},
		{"func f >\nret\nfunc f >\njmp x\n", 4, api.ErrLabel},
		{"func main >\njmp 9\na:\na:\n", 4, api.ErrLabel},
		{"func main >\nnop\nnop\ncall x\n", 4, api.ErrRef},
		{"func main >\nlocal " + strings.Repeat("I", 65) + "\ncall x\n", 3, api.ErrRef},
		{strings.Repeat("shape I\n", 65) + "func main >\njz x\n", 67, api.ErrLabel},
		{strings.Repeat("shape I\n", 65) + "func main >\nret\nwrong", 68, api.ErrLine},
		{"func main >\n" + strings.Repeat("nop\n", 600) + "call x\n", 602, api.ErrRef},
		{"func main >\n" + strings.Repeat("nop\n", 600) + "a:\njmp b\n", 603, api.ErrLabel},
		{"func main >\n" + strings.Repeat("nop\n", 600) + "a:\njmp a\n", 0, api.ErrText},
		{"func main >\n" + strings.Repeat("nop\n", 600) + "wrong", 602, api.ErrLine},
		{"func main >\njz b\nfunc f >\nb:\nret", 2, api.ErrLabel},
	} {
		wrong(t, c.text, c.line, c.e)
	}
}
