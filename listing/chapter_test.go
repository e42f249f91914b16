package listing_test

import (
	"slices"
	"strconv"
	"strings"
	"testing"

	"backstay/api"
	"backstay/listing"
)

// told is a line of a listing: its text, and the instruction that it is; of a line that is none fn is -1.
type told struct {
	text      string
	fn, place int
}

// operands are all instructions' names, in the order of their ops, each with its operands: a type (t), a binary op (b), a unary op (u), a function (f), a place (p), another number (n).
func operands() []string {
	return strings.Split("nop|int n|zero t|load n|store n|addr n|ldp|stp|new n|get n t|set n t|func f|dup|drop|swap|bin b|un u|eq t|jmp p|jz p|call f|calli f|defer f|deferi f|ret|panic|recover|goexit|print|in", "|")
}

// typed are the types of letters.
func typed(s string) []int {
	var l []int
	for _, c := range s {
		l = append(l, strings.IndexRune(" IRFP", c))
	}
	return l
}

// letters are those of types.
func letters(l []int) string {
	s := ""
	for _, t := range l {
		s += string(" IRFP"[t])
	}
	return s
}

// does is a function without slots, of a body.
func does(name string, body ...api.Instr) api.Function { return api.Function{Name: name, Body: body} }

// ret is the shortest body.
func ret() api.Instr { return api.Instr{Op: api.OpRet} }

// goes says whether an instruction is a jmp or jz.
func goes(x api.Instr) bool { return x.Op == api.OpJmp || x.Op == api.OpJz }

// targetsOf are the places to which a body goes, rising.
func targetsOf(body []api.Instr) []int {
	var l []int
	for place := range body {
		if slices.ContainsFunc(body, func(x api.Instr) bool { return goes(x) && x.A == int64(place) }) {
			l = append(l, place)
		}
	}
	return l
}

// How a listing is.
const (
	withNames = iota
	byNumbers
	withPlaces
)

// operandText is an operand's, in a function of an image.
func operandText(kind string, n int64, p api.Image, f api.Function, how int) string {
	switch {
	case kind == "t":
		return string(" IRFP"[n])
	case kind == "b":
		return strings.Split("add sub mul div rem and or xor andnot shl shr lt le eq", " ")[n]
	case kind == "u":
		return strings.Split("neg not zero i8 i16 i32 u8 u16 u32", " ")[n]
	case how == withNames && kind == "p":
		return "L" + strconv.Itoa(slices.Index(targetsOf(f.Body), int(n)))
	case how == withNames && kind == "f" && n < int64(len(p.Functions)):
		return p.Functions[n].Name
	}
	return strconv.FormatInt(n, 10)
}

// instruction is the text of one.
func instruction(x api.Instr, p api.Image, f api.Function, how int) string {
	words := strings.Split(operands()[x.Op], " ")
	for i, kind := range words[1:] {
		words[i+1] = operandText(kind, []int64{x.A, x.B}[i], p, f, how)
	}
	return strings.Join(words, " ")
}

// linesOf are those of an image that may be, as the chapter's words tell.
func linesOf(p api.Image, how int) []told {
	var l []told
	for _, s := range p.Shapes {
		l = append(l, told{"shape " + letters(s), -1, 0})
	}
	for fn, f := range p.Functions {
		l = append(l, told{"func " + f.Name + " " + letters(f.Sig.Args) + ">" + letters(f.Sig.Results), -1, 0})
		if len(f.Locals) > 0 {
			l = append(l, told{"local " + letters(f.Locals), -1, 0})
		}
		goneTo := targetsOf(f.Body)
		for place, x := range f.Body {
			if i := slices.Index(goneTo, place); i >= 0 && how == withNames {
				l = append(l, told{"L" + strconv.Itoa(i) + ":", -1, 0})
			}
			text := instruction(x, p, f, how)
			if how == withPlaces {
				text += " ; " + strconv.Itoa(place)
			}
			l = append(l, told{text, fn, place})
		}
	}
	return l
}

// textOf is the text of lines.
func textOf(l []told) string {
	var b strings.Builder
	for _, t := range l {
		b.WriteString(t.text + "\n")
	}
	return b.String()
}

// listings are all three of an image, and what the chapter's words make of it.
func listings(p api.Image) (got, want [3]string) {
	got = [3]string{withNames: listing.List(p), byNumbers: listing.Plain(p), withPlaces: listing.Numbered(p)}
	for how := range want {
		want[how] = textOf(linesOf(p, how))
	}
	return got, want
}

// lists fails unless an image's listings are what the chapter's words make of it.
func lists(t *testing.T, p api.Image) {
	t.Helper()
	got, want := listings(p)
	for how := range want {
		if got[how] != want[how] {
			t.Fatalf("listing %d of %v is\n%s\nnot\n%s", how, p, got[how], want[how])
		}
	}
}

// places fails unless the lines of an image's listing are told, each as what it is, and none else.
func places(t *testing.T, p api.Image) {
	t.Helper()
	lines := linesOf(p, withNames)
	for i, want := range lines {
		fn, place, e := listing.Place(p, i+1)
		if want.fn < 0 {
			if fn != 0 || place != 0 || e != api.ErrListing {
				t.Fatalf("line %d of %v, %q, is told as %d %d %d", i+1, p, want.text, fn, place, e)
			}
			continue
		}
		if fn != want.fn || place != want.place || e != api.OK {
			t.Fatalf("line %d of %v, %q, is told as %d %d %d", i+1, p, want.text, fn, place, e)
		}
		if n, e := listing.Line(p, fn, place); n != i+1 || e != api.OK {
			t.Fatalf("%d %d of %v, %q, is told as line %d %d, not %d", fn, place, p, want.text, n, e, i+1)
		}
	}
	for _, line := range []int{-1 << 63, -len(lines), -2, -1, 0, len(lines) + 1, len(lines) + 2, 1<<63 - 1} {
		if fn, place, e := listing.Place(p, line); fn != 0 || place != 0 || e != api.ErrListing {
			t.Fatalf("line %d of %v, that there is not, is told as %d %d %d", line, p, fn, place, e)
		}
	}
}

// example is the chapter's.
func example() api.Image {
	return api.Image{
		Shapes:    []api.Shape{{api.TypeI, api.TypeR}},
		Functions: []api.Function{does("main", api.Instr{Op: api.OpInt, A: 1}, api.Instr{Op: api.OpJz}, api.Instr{Op: api.OpCall}, ret())},
	}
}

// All examples of P10.1.
func TestP10_1Examples(t *testing.T) {
	if s := listing.Plain(example()); s != "shape IR\nfunc main >\nint 1\njz 0\ncall 0\nret\n" {
		t.Errorf("plain:\n%s", s)
	}
	if s := listing.List(example()); s != "shape IR\nfunc main >\nL0:\nint 1\njz L0\ncall main\nret\n" {
		t.Errorf("listing:\n%s", s)
	}
}

// All examples of P10.2.
func TestP10_2Examples(t *testing.T) {
	if n, e := listing.Line(example(), 0, 1); n != 5 || e != api.OK {
		t.Error(n, e)
	}
	if fn, place, e := listing.Place(example(), 3); fn != 0 || place != 0 || e != api.ErrListing {
		t.Error(fn, place, e)
	}
	if fn, place, e := listing.Place(example(), 4); fn != 0 || place != 0 || e != api.OK {
		t.Error(fn, place, e)
	}
}
