package asm_test

import (
	"fmt"
	"math/rand/v2"
	"slices"
	"strconv"
	"strings"
	"testing"
	"unsafe"

	"backstay/api"
	"backstay/asm"
)

// example is a text that has something of all.
const example = `shape IRF
shape R

func main P>I ; the first one
  local FI
again:
  in
  drop
  jz out
  call f
  jmp again
out:
  func f
  store 2
  ret
func f >
again:
  defer f
  deferi main
  int -7
  jz end
  jmp again
end:
  ret
`

// spoil writes over a list, and over all memory behind it.
func spoil[T any](l []T, with T) {
	l = l[:cap(l)]
	for i := range l {
		l[i] = with
	}
}

// spoilers are functions that each write over one of an image's lists; those that write over lists of lists come last.
func spoilers(p api.Image) []func() {
	var all []func()
	for _, s := range p.Shapes {
		all = append(all, func() { spoil(s, -9) })
	}
	for _, f := range p.Functions {
		all = append(all,
			func() { spoil(f.Sig.Args, -9) },
			func() { spoil(f.Sig.Results, -9) },
			func() { spoil(f.Locals, -9) },
			func() { spoil(f.Body, api.Instr{Op: -9, A: -9, B: -9}) })
	}
	return append(all,
		func() { spoil(p.Shapes, api.Shape{-9}) },
		func() { spoil(p.Functions, api.Function{Name: "spoilt"}) })
}

// P9.3: an image that was written into is answered again as it was; no two of its lists share memory.
func TestP9_3ParseIsNew(t *testing.T) {
	want := saidBy(example).p
	n := len(spoilers(want))
	for i := range n {
		p, _, _ := asm.Parse(example)
		q, _, _ := asm.Parse(example)
		spoilers(p)[i]()
		if !like(q, want) {
			t.Fatalf("spoiler %d: another answer is now %v", i, q)
		}
		if again, _, _ := asm.Parse(example); !like(again, want) {
			t.Fatalf("spoiler %d: asked again %v", i, again)
		}
		// All but what was written over is as it was: so the same done to what the chapter tells makes the same.
		other := saidBy(example).p
		spoilers(other)[i]()
		if !like(p, other) {
			t.Errorf("spoiler %d: %v; want %v", i, p, other)
		}
	}
}

// P9.3: words and labels that were written into are answered again as they were.
func TestP9_3ListsAreNew(t *testing.T) {
	for range 3 {
		one, two := asm.Words("a b ; c"), asm.Words("a b ; c")
		spoil(one, "spoilt")
		if !slices.Equal(two, []string{"a", "b"}) {
			t.Errorf("%q", two)
		}
		first, second := asm.Labels(example, 0), asm.Labels(example, 0)
		spoil(first, "spoilt")
		if !slices.Equal(second, []string{"again", "out"}) || !slices.Equal(asm.Labels(example, 1), []string{"again", "end"}) {
			t.Errorf("%q, %q", second, asm.Labels(example, 1))
		}
		if got := asm.Words("a b ; c"); !slices.Equal(got, []string{"a", "b"}) {
			t.Errorf("%q", got)
		}
	}
}

// within says whether a text stands in the memory of another one.
func within(part, whole string) bool {
	at, from := uintptr(unsafe.Pointer(unsafe.StringData(part))), uintptr(unsafe.Pointer(unsafe.StringData(whole)))
	return len(part) > 0 && at >= from && at < from+uintptr(len(whole))
}

// P9.3: no text that is answered holds on to the one that was handed in.
func TestP9_3TextsAreNew(t *testing.T) {
	for _, text := range []string{strings.Clone(example), asm.Normal(example)} {
		p, _, _ := asm.Parse(text)
		answered := slices.Concat(asm.Labels(text, 0), asm.Labels(text, 1), asm.Words(text), []string{asm.Normal(text), p.Functions[0].Name, p.Functions[1].Name})
		for _, s := range answered {
			if within(s, text) {
				t.Errorf("%q is a part of what was handed in", s)
			}
		}
		if len(answered) != 9 || !within(text[3:9], text) {
			t.Errorf("%q", answered)
		}
	}
}

// decorated is a text with notes, blanks, tabs and empty lines put in, that say nothing.
func decorated(text string, source *rand.Rand) string {
	some := func(of ...string) string { return of[source.IntN(len(of))] }
	var b strings.Builder
	for _, line := range strings.Split(text, "\n") {
		for source.IntN(3) == 0 {
			b.WriteString(some("", " ", "\t \t", "; note", ";;\xff", " ; a: ; jmp a") + "\n")
		}
		b.WriteString(some("", "", " ", "\t", "  \t"))
		for i, word := range wordsOf(line) {
			if i > 0 {
				b.WriteString(some(" ", " ", "\t", "  ", " \t \t"))
			}
			b.WriteString(word)
		}
		b.WriteString(some("", "", " ", "\t", ";", " ; note", ";a: b", ";\xff") + "\n")
	}
	return strings.TrimSuffix(b.String(), some("", "\n"))
}

// numbered is a text that says an image, with its labels and functions told by numbers.
func numbered(text string) string {
	s := saidBy(text)
	var b strings.Builder
	next := make([]int, len(s.p.Functions))
	for _, l := range spokenIn(text) {
		_, label := isLabel(l.words)
		_, named, _ := instruction(l.words)
		switch {
		case label:
			continue
		case named != "":
			fmt.Fprintf(&b, "%s %d\n", l.words[0], s.p.Functions[l.fn].Body[next[l.fn]].A)
		default:
			b.WriteString(strings.Join(l.words, " ") + "\n")
		}
		if head := l.words[0]; l.fn >= 0 && head != "local" && (head != "func" || len(l.words) == 2) {
			next[l.fn]++
		}
	}
	return b.String()
}

// follows fails, unless of a text all holds that is said to follow.
func follows(t *testing.T, text string, source *rand.Rand) said {
	t.Helper()
	s := agrees(t, text)
	normal := asm.Normal(text)
	if normal != normalOf(text) || asm.Normal(normal) != normal {
		t.Fatalf("%s: %s, of it %s", short(text), short(normal), short(asm.Normal(normal)))
	}
	same := func(other string) {
		t.Helper()
		if p, line, e := asm.Parse(other); !like(p, s.p) || e != s.e || (line == 0) != (s.line == 0) {
			t.Fatalf("%s: %v, error %d; but %s: %v, line %d, error %d", short(text), s.p, s.e, short(other), p, line, e)
		}
		if got := agrees(t, other); !slices.EqualFunc(got.labels, s.labels, slices.Equal[[]string]) {
			t.Fatalf("%s: %q; but %s: %q", short(text), s.labels, short(other), got.labels)
		}
	}
	same(normal)
	more := decorated(text, source)
	same(more)
	if asm.Normal(more) != normal {
		t.Fatalf("%s: %s; but %s: %s", short(text), short(normal), short(more), short(asm.Normal(more)))
	}
	if s.e != api.OK {
		return s
	}
	bare := numbered(text)
	if p, line, e := asm.Parse(bare); !like(p, s.p) || line != 0 || e != api.OK {
		t.Fatalf("%s: %v; but %s: %v, line %d, error %d", short(text), s.p, short(bare), p, line, e)
	}
	return s
}

// P9.4: what a text says, its normal one says, and so it does with notes, blanks and empty lines, and with labels told by numbers.
func TestP9_4Example(t *testing.T) {
	source := rand.New(rand.NewPCG(9, 4))
	for range 200 {
		if s := follows(t, example, source); s.e != api.OK {
			t.Fatalf("line %d, error %d", s.line, s.e)
		}
	}
	text := numbered(example)
	if strings.Contains(text, ":") || strings.Contains(text, "jmp again") || !strings.Contains(text, "jz 5\ncall 1\njmp 0\nfunc 1\n") || text != asm.Normal(text) {
		t.Errorf("%q", text)
	}
}

// tally counts what texts say.
type tally map[api.Errno]int

// enough fails, unless each outcome was met so often.
func (c tally) enough(t *testing.T, least int) {
	t.Helper()
	for _, e := range []api.Errno{api.OK, api.ErrLine, api.ErrLabel, api.ErrRef, api.ErrText} {
		if c[e] < least {
			t.Errorf("error %d: only %d times", e, c[e])
		}
	}
}

// P9.4: all texts of few lines, out of some.
func TestP9_4FewLines(t *testing.T) {
	met, source := tally{}, rand.New(rand.NewPCG(9, 5))
	for _, text := range pieced(4, "shape I\n", "func f >\n", "func g I>\n", "local I\n", "a:\n", "jmp a\n", "jmp 1\n", "jz a\n", "call g\n", "func g\n", "ret\n") {
		met[follows(t, text, source).e]++
	}
	// And all of more, behind a beginning.
	for _, text := range pieced(4, "func g >\n", "func f >\n", "a:\n", "b:\n", "jz a\n", "jmp b\n", "call g\n", "ret\n") {
		met[follows(t, "func f >\n"+text+"ret", source).e]++
	}
	met.enough(t, 100)
}

// weaver makes texts by chance, most of which say an image, or almost.
type weaver struct{ *rand.Rand }

// one is one of some.
func (w weaver) one(of ...string) string { return of[w.IntN(len(of))] }

// instruction is one's line, of a function with so many of them.
func (w weaver) instruction(n int) string {
	place := strconv.Itoa(w.IntN(n))
	if w.IntN(200) == 0 {
		return w.one("jmp "+strconv.Itoa(n), "jz nowhere", "call nobody", "int", "load 64", "func", "get 0 P", "jmp 512")
	}
	return w.one("nop", "int -1", "zero P", "load 0", "get 15 F", "bin andnot", "un u8", "eq R", "in", "recover", "ret", "panic",
		"jmp "+place, "jz "+place, "jz L"+strconv.Itoa(w.IntN(3)), "jmp L"+strconv.Itoa(w.IntN(3)),
		w.one("call", "calli", "defer", "deferi", "func")+" "+w.one("0", "63", "main", "main", "f1", "f0"))
}

// function is the lines of one: it has the labels L0, L1 and L2, each somewhere.
func (w weaver) function(name string) []string {
	l := []string{"func " + name + " " + w.one(">", "I>", "PI>R", ">IRF")}
	if w.IntN(3) == 0 {
		l = append(l, "local "+w.one("I", "PPP", "IRFP"))
	}
	n := 1 + w.IntN(12)
	var body []string
	for range n - 1 {
		body = append(body, w.instruction(n))
	}
	body = append(body, w.one("ret", "ret", "goexit", "jmp 0"))
	for i := range 3 {
		body = slices.Insert(body, w.IntN(len(body)), "L"+strconv.Itoa(i)+":")
	}
	return append(l, body...)
}

// text is one, with a line twice, left out, moved or put in, now and then.
func (w weaver) text() string {
	var l []string
	for range w.IntN(3) {
		l = append(l, "shape "+w.one("I", "RF", "IRFIRFIRFIRFIRFI"))
	}
	l = append(l, w.function("main")...)
	for i := range w.IntN(3) {
		l = append(l, w.function("f"+strconv.Itoa(i))...)
	}
	at, to := w.IntN(len(l)), w.IntN(len(l))
	switch w.IntN(12) {
	case 0:
		l = slices.Insert(l, to, l[at])
	case 1:
		l = slices.Delete(l, at, at+1)
	case 2:
		l[at], l[to] = l[to], l[at]
	case 3:
		l = slices.Insert(l, to, w.one("shape I", "local I", "L1:", "end:", "jmp end", "call f1", "func f1 >", "func f1", "wrong", "ret ret", ":"))
	}
	return strings.Join(l, "\n") + w.one("", "\n")
}

// P9.4: texts made by chance.
func TestP9_4ManyTexts(t *testing.T) {
	met, w := tally{}, weaver{rand.New(rand.NewPCG(9, 6))}
	for range 5000 {
		met[follows(t, w.text(), w.Rand).e]++
	}
	met.enough(t, 70)
}

// P9.4: texts one byte of which is another one, is left out, or is one more.
func TestP9_4OneByte(t *testing.T) {
	source := rand.New(rand.NewPCG(9, 7))
	for at := range len(example) {
		for _, c := range []string{"", " ", "\t", "\n", ";", ":", ">", "a", "I", "0", "9", "-", "\r", "\x00", "\xff"} {
			follows(t, example[:at]+c+example[at+1:], source)
			follows(t, example[:at]+c+example[at:], source)
		}
		follows(t, example[:at], source)
		follows(t, example[at:], source)
	}
}

// P9.4: a normal text of at most MaxText bytes says the same, however long the text is that it is of.
func TestP9_4LongTexts(t *testing.T) {
	var b strings.Builder
	for i := range 64 {
		fmt.Fprintf(&b, "func f%d >\n%sret\n", i, strings.Repeat("int -9223372036854775808\n", 81))
	}
	text := b.String()
	text += strings.Repeat(";", api.MaxText-len(text))
	if s := agrees(t, text); s.e != api.OK || len(text) != api.MaxText || len(s.p.Functions) != 64 {
		t.Fatalf("line %d, error %d", s.line, s.e)
	}
	p, _, _ := asm.Parse(text)
	q, line, e := asm.Parse(asm.Normal(text + ";;;" + strings.Repeat("\n\t ", 1000)))
	if !like(p, q) || line != 0 || e != api.OK {
		t.Errorf("line %d, error %d", line, e)
	}
}

// P9.2: where a text of just MaxText bytes lacks its last line feed, and has nothing to leave out, its normal one is one byte too long for Parse.
func TestP9_2NormalIsTooLong(t *testing.T) {
	var b strings.Builder
	for i := 10; b.Len() < api.MaxText-2200; i++ {
		fmt.Fprintf(&b, "func f%d >\n%sret\n", i, strings.Repeat("int -9223372036854775808\n", 82))
	}
	// A name's length takes up what lines of six bytes leave over.
	rest := api.MaxText - b.Len() - len("func  >\nret")
	text := b.String() + "func " + strings.Repeat("g", 6+rest%6) + " >\n" + strings.Repeat("int 0\n", rest/6-1) + "ret"
	if s := agrees(t, text); s.e != api.OK || len(text) != api.MaxText {
		t.Fatalf("%d bytes: line %d, error %d", len(text), s.line, s.e)
	}
	normal := asm.Normal(text)
	if normal != text+"\n" {
		t.Errorf("%d bytes", len(normal))
	}
	wrong(t, normal, 0, api.ErrText)
}

// The chapter's examples.
func TestP9_1Examples(t *testing.T) {
	says(t, "func main >\nret", image(plain("main", ret())))
	says(t, "func main >\nret\n", image(plain("main", ret())))
	says(t, "func main >\ntop: \njmp top ; round", image(plain("main", api.Instr{Op: api.OpJmp})))
	says(t, "func main >\ntop: \njmp top ; round\n", image(plain("main", api.Instr{Op: api.OpJmp})))
	wrong(t, "func main >\njmp end", 2, api.ErrLabel)
	wrong(t, "func main >\njmp end\n", 2, api.ErrLabel)
	wrong(t, "ret", 1, api.ErrLine)
	wrong(t, "", 0, api.ErrText)
}

// The document's examples that are told as texts.
func TestP9_1ExamplesOfTheWhole(t *testing.T) {
	says(t, "func main >I\nint 7\nstore 0\nret", image(api.Function{
		Name: "main", Sig: api.Signature{Results: []int{api.TypeI}}, Body: []api.Instr{{Op: api.OpInt, A: 7}, {Op: api.OpStore}, ret()},
	}))
	says(t, "func main >\njmp 0", image(plain("main", api.Instr{Op: api.OpJmp})))
}
