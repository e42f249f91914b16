package asm_test

import (
	"math/big"
	"regexp"
	"slices"
	"strconv"
	"strings"
	"testing"

	"backstay/api"
	"backstay/asm"
)

// said is what a text says: an image and its functions' labels, or what is wrong, and in which line.
type said struct {
	p      api.Image
	labels [][]string
	line   int
	e      api.Errno
}

// spoken is a line that has words, with its number, and the number of the function that it stands in (-1: in none).
type spoken struct {
	number, fn int
	words      []string
}

var (
	aName      = regexp.MustCompile(`^[a-zA-Z][a-zA-Z0-9]{0,31}$`)
	aShape     = regexp.MustCompile(`^[IRF]{1,16}$`)
	aSignature = regexp.MustCompile(`^([IRFP]*)>([IRF]*)$`)
	someLocals = regexp.MustCompile(`^[IRFP]+$`)
	aNumber    = regexp.MustCompile(`^(0|-?[1-9][0-9]*)$`)
)

// operands are all instructions' names, in the order of their ops, each with its operands: a number (n), a type (t), a held one (h), a slot (s), a shape (o), a cell (c), a function (f), a binary op (b), a unary op (u), a place (p).
func operands() []string {
	return strings.Split("nop|int n|zero t|load s|store s|addr s|ldp|stp|new o|get c h|set c h|func f|dup|drop|swap|bin b|un u|eq t|jmp p|jz p|call f|calli f|defer f|deferi f|ret|panic|recover|goexit|print|in", "|")
}

// operand is the number that a word says, as the chapter on instructions tells.
func operand(kind, word string) (int64, bool) {
	among := func(list, word string) (int64, bool) {
		i := slices.Index(strings.Split(list, " "), word)
		return int64(i), i >= 0
	}
	digits := func(least, most int64) (int64, bool) {
		n, ok := new(big.Int).SetString(word, 10)
		if !ok || !aNumber.MatchString(word) || !n.IsInt64() || n.Int64() < least || n.Int64() > most {
			return 0, false
		}
		return n.Int64(), true
	}
	switch kind {
	case "t":
		i, ok := among("I R F P", word)
		return i + 1, ok
	case "h":
		i, ok := among("I R F", word)
		return i + 1, ok
	case "b":
		return among("add sub mul div rem and or xor andnot shl shr lt le eq", word)
	case "u":
		return among("neg not zero i8 i16 i32 u8 u16 u32", word)
	case "s", "o", "f":
		return digits(0, 63)
	case "c":
		return digits(0, 15)
	case "p":
		return digits(0, 511)
	}
	return digits(-1<<63, 1<<63-1)
}

// instruction is what words say, if it is one; where a name stands instead of a number, it is told: of a label (p), or of a function (f).
func instruction(words []string) (x api.Instr, named string, ok bool) {
	for op, text := range operands() {
		kinds := strings.Split(text, " ")
		if kinds[0] != words[0] || len(kinds) != len(words) {
			continue
		}
		x = api.Instr{Op: op}
		for i, into := range []*int64{&x.A, &x.B}[:len(kinds)-1] {
			kind, word := kinds[i+1], words[i+1]
			if strings.Contains("pf", kind) && aName.MatchString(word) {
				return x, kind, true
			}
			if *into, ok = operand(kind, word); !ok {
				return api.Instr{}, "", false
			}
		}
		return x, "", true
	}
	return api.Instr{}, "", false
}

// wordsOf are a line's, as the chapter tells.
func wordsOf(line string) []string {
	for _, end := range []string{"\n", ";"} {
		line = strings.Split(line, end)[0]
	}
	return slices.DeleteFunc(strings.Split(strings.ReplaceAll(line, "\t", " "), " "), func(s string) bool { return s == "" })
}

// spokenIn are the lines of a text that have words.
func spokenIn(text string) []spoken {
	var all []spoken
	fn := -1
	for i, line := range strings.Split(text, "\n") {
		words := wordsOf(line)
		if len(words) == 3 && words[0] == "func" {
			fn++
		}
		if len(words) > 0 {
			all = append(all, spoken{i + 1, fn, words})
		}
	}
	return all
}

// normalOf is a text's normal one, as the chapter tells.
func normalOf(text string) string {
	var b strings.Builder
	for _, l := range spokenIn(text) {
		b.WriteString(strings.Join(l.words, " ") + "\n")
	}
	return b.String()
}

// isLabel says whether words are a label, and of which name.
func isLabel(words []string) (string, bool) {
	name := strings.TrimSuffix(words[0], ":")
	return name, len(words) == 1 && name+":" == words[0] && aName.MatchString(name)
}

// speaks says whether a line says what there is, and may where it stands: behind those that are ahead of it.
func speaks(l spoken, ahead []spoken) bool {
	_, label := isLabel(l.words)
	_, _, instr := instruction(l.words)
	switch {
	case l.words[0] == "shape" && len(l.words) == 2:
		return l.fn < 0 && aShape.MatchString(l.words[1])
	case l.words[0] == "func" && len(l.words) == 3:
		g := aSignature.FindStringSubmatch(l.words[2])
		return g != nil && len(g[1])+len(g[2]) <= 64 && aName.MatchString(l.words[1])
	case l.words[0] == "local" && len(l.words) == 2:
		behind := len(ahead) > 0 && ahead[len(ahead)-1].words[0] == "func" && len(ahead[len(ahead)-1].words) == 3
		return behind && someLocals.MatchString(l.words[1]) && len(l.words[1]) <= 1024
	}
	return l.fn >= 0 && (label || instr)
}

// typed are the types of letters.
func typed(s string) []int {
	var l []int
	for _, c := range s {
		l = append(l, strings.IndexRune(" IRFP", c))
	}
	return l
}

// unresolved is what lines say that all may, with names left as they are: an image without what is named, and all functions' labels with their places.
func unresolved(all []spoken) (p api.Image, names []string, places []map[string]int, labels [][]string) {
	for _, l := range all {
		switch name, label := isLabel(l.words); {
		case l.fn < 0:
			p.Shapes = append(p.Shapes, typed(l.words[1]))
		case l.words[0] == "func" && len(l.words) == 3:
			g := strings.Split(l.words[2], ">")
			p.Functions = append(p.Functions, api.Function{Name: l.words[1], Sig: api.Signature{Args: typed(g[0]), Results: typed(g[1])}})
			names, places, labels = append(names, l.words[1]), append(places, map[string]int{}), append(labels, nil)
		case l.words[0] == "local":
			p.Functions[l.fn].Locals = typed(l.words[1])
		case label:
			if _, ok := places[l.fn][name]; !ok {
				places[l.fn][name] = len(p.Functions[l.fn].Body)
			}
			labels[l.fn] = append(labels[l.fn], name)
		default:
			x, _, _ := instruction(l.words)
			p.Functions[l.fn].Body = append(p.Functions[l.fn].Body, x)
		}
	}
	return p, names, places, labels
}

// mayBe says whether an image may be that has no operand out of its range.
func mayBe(p api.Image) bool {
	names := map[string]int{}
	for _, f := range p.Functions {
		names[f.Name]++
		n := len(f.Body)
		if n < 1 || n > 512 || len(f.Sig.Args)+len(f.Sig.Results)+len(f.Locals) > 64 || names[f.Name] > 1 {
			return false
		}
		if !slices.Contains([]int{api.OpJmp, api.OpRet, api.OpPanic, api.OpGoexit}, f.Body[n-1].Op) {
			return false
		}
		for _, x := range f.Body {
			if (x.Op == api.OpJmp || x.Op == api.OpJz) && x.A >= int64(n) {
				return false
			}
		}
	}
	return len(p.Shapes) <= 64 && len(p.Functions) >= 1 && len(p.Functions) <= 64
}

// saidBy is what a text says, as the chapter tells.
func saidBy(text string) said {
	if len(text) > 131072 {
		return said{e: api.ErrText}
	}
	all := spokenIn(text)
	for i, l := range all {
		if !speaks(l, all[:i]) {
			return said{line: l.number, e: api.ErrLine}
		}
	}
	p, names, places, labels := unresolved(all)
	next, met := make([]int, len(names)), make([]map[string]int, len(names))
	for _, l := range all {
		name, label := isLabel(l.words)
		x, named, instr := instruction(l.words)
		if label {
			if met[l.fn][name] > 0 {
				return said{line: l.number, e: api.ErrLabel}
			}
			if met[l.fn] == nil {
				met[l.fn] = map[string]int{}
			}
			met[l.fn][name]++
		}
		if l.fn < 0 || !instr {
			continue
		}
		switch at, ok := places[l.fn][l.words[len(l.words)-1]]; {
		case named == "p" && !ok:
			return said{line: l.number, e: api.ErrLabel}
		case named == "p":
			x.A = int64(at)
		case named == "f" && !slices.Contains(names, l.words[1]):
			return said{line: l.number, e: api.ErrRef}
		case named == "f":
			x.A = int64(slices.Index(names, l.words[1]))
		}
		p.Functions[l.fn].Body[next[l.fn]] = x
		next[l.fn]++
	}
	if !mayBe(p) {
		return said{e: api.ErrText}
	}
	return said{p: p, labels: labels}
}

// like says whether two images are one; no list and an empty one are the same.
func like(p, q api.Image) bool {
	return slices.EqualFunc(p.Shapes, q.Shapes, func(s, r api.Shape) bool { return slices.Equal(s, r) }) &&
		slices.EqualFunc(p.Functions, q.Functions, func(f, g api.Function) bool {
			return f.Name == g.Name && slices.Equal(f.Sig.Args, g.Sig.Args) && slices.Equal(f.Sig.Results, g.Sig.Results) &&
				slices.Equal(f.Locals, g.Locals) && slices.Equal(f.Body, g.Body)
		})
}

// short is a text, cut where it is too long to be told.
func short(text string) string {
	if len(text) > 2000 {
		return strconv.Quote(text[:2000]) + ".."
	}
	return strconv.Quote(text)
}

// agrees fails, unless what is answered of a text is what the chapter tells; that it answers.
func agrees(t *testing.T, text string) said {
	t.Helper()
	want := saidBy(text)
	if p, line, e := asm.Parse(text); !like(p, want.p) || line != want.line || e != want.e {
		t.Fatalf("%s: %v, line %d, error %d; want %v, line %d, error %d", short(text), p, line, e, want.p, want.line, want.e)
	}
	for fn := range len(want.labels) + 2 {
		var labels []string
		if fn > 0 && fn <= len(want.labels) {
			labels = want.labels[fn-1]
		}
		if got := asm.Labels(text, fn-1); !slices.Equal(got, labels) {
			t.Fatalf("%s: labels of %d: %q; want %q", short(text), fn-1, got, labels)
		}
	}
	return want
}

// wrong fails, unless a text is answered by that error in that line, and by nothing else; and has no labels.
func wrong(t *testing.T, text string, line int, e api.Errno) {
	t.Helper()
	p, gotLine, gotE := asm.Parse(text)
	if !like(p, api.Image{}) || gotLine != line || gotE != e {
		t.Errorf("%s: %v, line %d, error %d; want line %d, error %d", short(text), p, gotLine, gotE, line, e)
	}
	for fn := range 3 {
		if l := asm.Labels(text, fn); len(l) != 0 {
			t.Errorf("%s: labels of %d: %q", short(text), fn, l)
		}
	}
	agrees(t, text)
}

// says fails, unless a text says an image.
func says(t *testing.T, text string, want api.Image) {
	t.Helper()
	if p, line, e := asm.Parse(text); !like(p, want) || line != 0 || e != api.OK {
		t.Errorf("%s: %v, line %d, error %d; want %v", short(text), p, line, e, want)
	}
	agrees(t, text)
}

// image is one of functions alone.
func image(f ...api.Function) api.Image { return api.Image{Functions: f} }

// plain is a function without slots, of those instructions.
func plain(name string, body ...api.Instr) api.Function {
	return api.Function{Name: name, Body: body}
}

// ret is the instruction that most functions end with.
func ret() api.Instr { return api.Instr{Op: api.OpRet} }
