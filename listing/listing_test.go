package listing_test

import (
	"fmt"
	"math/rand/v2"
	"slices"
	"strconv"
	"strings"
	"testing"

	"backstay/api"
	"backstay/image"
	"backstay/listing"
)

// one is an image of functions.
func one(functions ...api.Function) api.Image { return api.Image{Functions: functions} }

// jmp and jz go to a place.
func jmp(place int) api.Instr { return api.Instr{Op: api.OpJmp, A: int64(place)} }
func jz(place int) api.Instr  { return api.Instr{Op: api.OpJz, A: int64(place)} }

// nops are so many nops, and a ret behind them.
func nops(n int) []api.Instr { return append(make([]api.Instr, n), ret()) }

// everything is an image that has something of all.
func everything() api.Image {
	return api.Image{
		Shapes: []api.Shape{typed("IRF"), typed("R")},
		Functions: []api.Function{
			{Name: "main", Sig: api.Signature{Args: typed("P"), Results: typed("I")}, Locals: typed("FI"), Body: []api.Instr{
				{Op: api.OpInt, A: -5}, jz(6), {Op: api.OpCall, A: 1}, {Op: api.OpFunc}, {Op: api.OpCalli, A: 3}, jmp(1), {Op: api.OpGet, A: 15, B: api.TypeF}, ret(),
			}},
			does("second", api.Instr{Op: api.OpDefer, A: 2}, api.Instr{Op: api.OpDeferi}, jmp(0)),
			{Name: "third", Sig: api.Signature{Args: typed("II"), Results: typed("RF")}, Body: []api.Instr{{Op: api.OpBin, A: api.BinShl}, {Op: api.OpGoexit}}},
		},
	}
}

// P10.1: all kinds of lines, written out.
func TestP10_1WrittenOut(t *testing.T) {
	list := `shape IRF
shape R
func main P>I
local FI
int -5
L0:
jz L1
call second
func main
calli 3
jmp L0
L1:
get 15 F
ret
func second >
L0:
defer third
deferi main
jmp L0
func third II>RF
bin shl
goexit
`
	plain := `shape IRF
shape R
func main P>I
local FI
int -5
jz 6
call 1
func 0
calli 3
jmp 1
get 15 F
ret
func second >
defer 2
deferi 0
jmp 0
func third II>RF
bin shl
goexit
`
	numbered := `shape IRF
shape R
func main P>I
local FI
int -5 ; 0
jz 6 ; 1
call 1 ; 2
func 0 ; 3
calli 3 ; 4
jmp 1 ; 5
get 15 F ; 6
ret ; 7
func second >
defer 2 ; 0
deferi 0 ; 1
jmp 0 ; 2
func third II>RF
bin shl ; 0
goexit ; 1
`
	got, want := listings(everything())
	for how, s := range []string{list, plain, numbered} {
		if got[how] != s {
			t.Errorf("listing %d is\n%s", how, got[how])
		}
		if want[how] != s {
			t.Errorf("the chapter's words make of it\n%s", want[how])
		}
	}
}

// P10.1: no shapes, one, and the most, with one cell and with the most.
func TestP10_1Shapes(t *testing.T) {
	for _, n := range []int{0, 1, 2, 9, 10, 11, 63, 64} {
		p := one(does("main", api.Instr{Op: api.OpNew}, ret()))
		for i := range n {
			p.Shapes = append(p.Shapes, typed(strings.Repeat("IRFFRIRR", 2)[:i%16+1]))
		}
		lists(t, p)
		if got := strings.Count(listing.List(p), "shape "); got != n {
			t.Errorf("%d shapes, told %d times", n, got)
		}
		places(t, p)
	}
}

// P10.1: signatures, and locals: none, one of each type, and the most.
func TestP10_1Slots(t *testing.T) {
	most := strings.Repeat("IRFPPFRI", 8)
	for _, s := range []struct{ args, results, locals string }{
		{"", "", ""}, {"", "", "I"}, {"", "", "R"}, {"", "", "F"}, {"", "", "P"}, {"", "", "PFRI"}, {"", "", most}, {"P", "R", most[:62]},
		{"I", "", ""}, {"", "I", ""}, {"IRFP", "IRF", ""}, {most, "", ""}, {"", strings.Repeat("FRI", 22)[:64], ""}, {most[:32], "", most[:32]},
	} {
		f := api.Function{Name: "f", Sig: api.Signature{Args: typed(s.args), Results: typed(s.results)}, Locals: typed(s.locals), Body: nops(0)}
		want := "func f " + s.args + ">" + s.results + "\n"
		if s.locals != "" {
			want += "local " + s.locals + "\n"
		}
		if got := listing.List(one(f)); got != want+"ret\n" {
			t.Errorf("%v: %q", s, got)
		}
		p := one(f, does("g", ret()), f, f)
		p.Functions[2].Name, p.Functions[3].Name = "h", "i"
		lists(t, p)
		places(t, p)
	}
}

// P10.1: an instruction of each op, with the operands at the bounds of their ranges: of all those that are neither a place nor a function the text stays as it is, names or not.
func TestP10_1Instructions(t *testing.T) {
	bounds := [...][]int64{
		api.OperandNone: {0}, api.OperandNumber: {-1 << 63, -1, 0, 1, 1<<63 - 1}, api.OperandType: {1, 2, 3, 4}, api.OperandHeld: {1, 2, 3},
		api.OperandSlot: {0, 1, 63}, api.OperandShape: {0, 1, 63}, api.OperandCell: {0, 1, 15}, api.OperandFunction: {0, 1, 2, 3, 9, 10, 62, 63},
		api.OperandBin: {0, 1, 12, 13}, api.OperandUn: {0, 1, 7, 8}, api.OperandPlace: {0, 1, 2},
	}
	kinds := map[string]int{"t": api.OperandType, "b": api.OperandBin, "u": api.OperandUn, "f": api.OperandFunction, "p": api.OperandPlace, "n": api.OperandSlot}
	other := map[string][2]int{
		"int": {api.OperandNumber}, "new": {api.OperandShape}, "get": {api.OperandCell, api.OperandHeld}, "set": {api.OperandCell, api.OperandHeld},
	}
	for op, text := range operands() {
		words := strings.Split(text, " ")
		k, ok := other[words[0]]
		for i, kind := range words[1:] {
			if !ok {
				k[i] = kinds[kind]
			}
		}
		for _, a := range bounds[k[0]] {
			for _, b := range bounds[k[1]] {
				x := api.Instr{Op: op, A: a, B: b}
				p := one(does("zero", x, ret(), ret()), does("first", jmp(1), jz(2), x, ret()))
				p.Shapes = []api.Shape{{1}}
				lists(t, p)
				if plain, list := listing.Plain(p), listing.List(p); k[0] != api.OperandPlace && k[0] != api.OperandFunction {
					line := instruction(x, p, p.Functions[0], byNumbers)
					if strings.Count(plain, "\n"+line+"\n") < 2 || strings.Count(list, "\n"+line+"\n") < 2 {
						t.Errorf("%v is not told as %q in\n%s%s", x, line, plain, list)
					}
				}
			}
		}
	}
}

// P10.1: places have names by their order, not by the order of what goes there; each function counts its own.
func TestP10_1Labels(t *testing.T) {
	many := nops(40)
	for place := range many[:30] {
		many[place] = jz((place*7 + 3) % 37)
	}
	all := make([]api.Instr, 512)
	for place := range all {
		all[place] = jmp((place*5 + 77) % 512)
	}
	last := append(nops(510), jmp(511))
	for _, c := range []struct {
		body []api.Instr
		want string
	}{
		{nops(0), "ret"},
		{nops(2), "nop|nop|ret"},
		{[]api.Instr{jmp(0)}, "L0:|jmp L0"},
		{[]api.Instr{jmp(1), jmp(0)}, "L0:|jmp L1|L1:|jmp L0"},
		{[]api.Instr{jmp(1), jmp(1)}, "jmp L0|L0:|jmp L0"},
		{[]api.Instr{jz(3), jz(1), jz(3), ret()}, "jz L1|L0:|jz L0|jz L1|L1:|ret"},
		{[]api.Instr{jz(2), jz(2), ret(), jmp(2)}, "jz L0|jz L0|L0:|ret|jmp L0"},
		{[]api.Instr{jz(4), jz(2), {}, jz(0), jmp(2)}, "L0:|jz L2|jz L1|L1:|nop|jz L0|L2:|jmp L1"},
		{[]api.Instr{{Op: api.OpInt, A: 2}, {Op: api.OpLoad, A: 2}, {Op: api.OpNew, A: 2}, {Op: api.OpGet, A: 2, B: 2}, jmp(2)}, "int 2|load 2|L0:|new 2|get 2 R|jmp L0"},
		{many, ""}, {all, ""}, {last, ""},
	} {
		if c.want != "" {
			want := "func f >\n" + strings.ReplaceAll(c.want, "|", "\n") + "\n"
			if got := listing.List(one(does("f", c.body...))); got != want {
				t.Errorf("%v is told as\n%s", c.body, got)
			}
		}
		p := one(does("f", c.body...))
		lists(t, p)
		places(t, p)
		p = one(does("a", jmp(0)), does("b", c.body...), does("c", nops(1)...), does("d", c.body...), does("e", nops(3)...), does("f", jz(1), jmp(1)))
		lists(t, p)
		if len(c.body) < 100 {
			places(t, p)
		}
	}
}

// P10.1: labels of one, two and three digits, each at its own place.
func TestP10_1ManyLabels(t *testing.T) {
	for _, n := range []int{1, 9, 10, 11, 12, 99, 100, 101, 255, 511} {
		var body []api.Instr
		for place := range n {
			body = append(body, jz(n-place))
		}
		p := one(does("f", append(body, ret())...))
		got := strings.Split(listing.List(p), "\n")
		for i := range n {
			if label := "L" + strconv.Itoa(i) + ":"; got[2+2*i] != label {
				t.Fatalf("%d targets: line %d is %q, not %s", n, 3+2*i, got[2+2*i], label)
			}
			// The one in place i goes to n-i, whose label is one less.
			if line := "jz L" + strconv.Itoa(n-i-1); got[1+2*i] != line {
				t.Fatalf("%d targets: line %d is %q, not %s", n, 2+2*i, got[1+2*i], line)
			}
		}
		lists(t, p)
	}
}

// calls are the ops that name functions.
func calls() []int {
	return []int{api.OpFunc, api.OpCall, api.OpCalli, api.OpDefer, api.OpDeferi}
}

// P10.1: functions are named ahead of their lines, behind, and in their own; of numbers that no function has the number stays.
func TestP10_1Functions(t *testing.T) {
	for _, n := range []int{1, 2, 3, 10, 11, 62, 63, 64} {
		var p api.Image
		for i := range n {
			f := does("f" + strconv.Itoa(i) + "x")
			for _, op := range calls() {
				for _, a := range []int{0, 1, i, i + 1, n - 2, n - 1, n, n + 1, 62, 63} {
					if a >= 0 && a < 64 {
						f.Body = append(f.Body, api.Instr{Op: op, A: int64(a)})
					}
				}
			}
			f.Body = append(f.Body, ret())
			p.Functions = append(p.Functions, f)
		}
		lists(t, p)
		list := listing.List(p)
		for _, op := range calls() {
			name := strings.Split(operands()[op], " ")[0]
			for a := range 64 {
				number, named := fmt.Sprintf("\n%s %d\n", name, a), fmt.Sprintf("\n%s f%dx\n", name, a)
				if a < n && (strings.Contains(list, number) || strings.Count(list, named) == 0 && slices.Contains([]int{0, 1, n - 1}, a)) {
					t.Fatalf("%d functions: %s of %d is not told by name", n, name, a)
				}
				if a >= n && (strings.Contains(list, named) || !strings.Contains(list, number) && slices.Contains([]int{n, 62, 63}, a)) {
					t.Fatalf("%d functions: %s of %d, that there is not, is not told by number", n, name, a)
				}
			}
		}
	}
}

// P10.1: functions may have names like the words that lines begin with, labels' names, and letters alone; such names are told as they are.
func TestP10_1Names(t *testing.T) {
	names := []string{"main", "shape", "func", "local", "L0", "L1", "jmp", "ret", "I", "nop", "x1", "Z", "a", strings.Repeat("aZ9", 11)[:32]}
	var p api.Image
	for i, name := range names {
		f := does(name, jz(3), jz(1), jz(0))
		for _, op := range calls() {
			f.Body = append(f.Body, api.Instr{Op: op, A: int64(i)}, api.Instr{Op: op, A: int64(len(names) - i - 1)})
		}
		f.Body = append(f.Body, ret())
		p.Functions = append(p.Functions, f)
	}
	lists(t, p)
	places(t, p)
	if got, want := listing.List(one(does("L0", jmp(1), api.Instr{Op: api.OpCall}, ret()))), "func L0 >\njmp L0\nL0:\ncall L0\nret\n"; got != want {
		t.Errorf("%q", got)
	}
}

// P10.1: a listing may be longer than a text that may be read.
func TestP10_1Long(t *testing.T) {
	var p api.Image
	for i := range 64 {
		f := does("f" + strconv.Itoa(i))
		for range 511 {
			f.Body = append(f.Body, api.Instr{Op: api.OpInt, A: -1 << 63})
		}
		f.Body = append(f.Body, ret())
		p.Functions = append(p.Functions, f)
	}
	lists(t, p)
	if n := len(listing.Plain(p)); n < 6*api.MaxText {
		t.Errorf("%d bytes", n)
	}
	if n, e := listing.Line(p, 63, 511); n != 64*513 || e != api.OK {
		t.Error(n, e)
	}
	if fn, place, e := listing.Place(p, 64*513); fn != 63 || place != 511 || e != api.OK {
		t.Error(fn, place, e)
	}
}

// wrongBodies are lists that are no body.
func wrongBodies() [][]api.Instr {
	return [][]api.Instr{
		nil, {}, {{}}, {jz(0)}, {jmp(1)}, {jmp(-1)}, {jz(2), ret()}, {jz(511), ret()}, {jz(512), ret()}, nops(512), {{Op: api.Ops}, ret()}, {{Op: -1}, ret()},
		{{A: 1}, ret()}, {{Op: api.OpCall, A: 64}, ret()}, {{Op: api.OpCall, A: -1}, ret()}, {{Op: api.OpJmp, A: 0, B: 1}}, {{Op: api.OpGet, A: 0, B: 4}, ret()},
	}
}

// wrongFunctions are some that may not be.
func wrongFunctions() []api.Function {
	l := []api.Function{
		{}, does(""), does("", jmp(0)), does("9", jmp(0)), does("a b", jmp(0)), does("a;", jmp(0)), does(strings.Repeat("a", 33), jmp(0)), does("ä", jmp(0)),
		{Name: "f", Sig: api.Signature{Args: []int{5}}, Body: []api.Instr{jmp(0)}}, {Name: "f", Sig: api.Signature{Args: []int{0}}, Body: []api.Instr{jmp(0)}},
		{Name: "f", Sig: api.Signature{Results: typed("P")}, Body: []api.Instr{jmp(0)}}, {Name: "f", Locals: []int{0}, Body: []api.Instr{jmp(0)}},
		{Name: "f", Locals: []int{5}, Body: []api.Instr{jmp(0)}}, {Name: "f", Locals: typed(strings.Repeat("I", 65)), Body: []api.Instr{jmp(0)}},
		{Name: "f", Sig: api.Signature{Args: typed(strings.Repeat("I", 32)), Results: typed(strings.Repeat("I", 32))}, Locals: typed("I"), Body: []api.Instr{jmp(0)}},
	}
	for _, b := range wrongBodies() {
		l = append(l, does("f", b...))
	}
	return l
}

// wrongImages are some that may not be, by what is in them, and by how many there are.
func wrongImages() []api.Image {
	good := does("main", jz(1), ret())
	l := []api.Image{
		{}, {Shapes: []api.Shape{{1}}}, {Functions: []api.Function{}}, one(good, good), one(good, does("f", ret()), good),
		{Shapes: []api.Shape{{}}, Functions: []api.Function{good}}, {Shapes: []api.Shape{{1}, {4}}, Functions: []api.Function{good}},
		{Shapes: []api.Shape{{0}}, Functions: []api.Function{good}}, {Shapes: []api.Shape{make([]int, 17)}, Functions: []api.Function{good}},
		{Shapes: []api.Shape{typed(strings.Repeat("I", 17))}, Functions: []api.Function{good}},
		{Shapes: slices.Repeat([]api.Shape{{1}}, 65), Functions: []api.Function{good}},
	}
	for _, f := range wrongFunctions() {
		l = append(l, one(f), one(good, f), one(f, good), one(good, does("g", ret()), f))
	}
	var many api.Image
	for i := range 65 {
		many.Functions = append(many.Functions, does("f"+strconv.Itoa(i), jz(1), ret()))
	}
	return append(l, many)
}

// P10.1: of an image that may not be nothing is told.
func TestP10_1Wrong(t *testing.T) {
	for _, p := range wrongImages() {
		if list, plain, numbered := listing.List(p), listing.Plain(p), listing.Numbered(p); list != "" || plain != "" || numbered != "" {
			t.Errorf("%v is told as\n%s\n%s\n%s", p, list, plain, numbered)
		}
	}
}

// body is one by chance, of so many instructions: most go somewhere, or name something.
func body(r *rand.Rand, n int) []api.Instr {
	var l []api.Instr
	for place := range n {
		x := api.Instr{Op: r.IntN(api.Ops)}
		if r.IntN(3) == 0 {
			x.Op = []int{api.OpJz, api.OpJmp, api.OpCall, api.OpDefer}[r.IntN(4)]
		}
		if place == n-1 {
			x.Op = []int{api.OpRet, api.OpJmp, api.OpPanic, api.OpGoexit}[r.IntN(4)]
		}
		for i, kind := range strings.Split(operands()[x.Op], " ")[1:] {
			*[]*int64{&x.A, &x.B}[i] = map[string]func() int64{
				"t": func() int64 { return 1 + r.Int64N(3) },
				"b": func() int64 { return r.Int64N(api.Bins) },
				"u": func() int64 { return r.Int64N(api.Uns) },
				"f": func() int64 { return r.Int64N(int64(1 + r.IntN(api.MaxFunctions))) },
				"p": func() int64 { return r.Int64N(int64(n)) },
				"n": func() int64 { return r.Int64N(16) },
			}[kind]()
		}
		l = append(l, x)
	}
	return l
}

// some are types by chance, at most so many.
func some(r *rand.Rand, of string, least, most int) []int {
	var l []int
	for range least + r.IntN(most-least+1) {
		l = append(l, typed(of)[r.IntN(len(of))])
	}
	return l
}

// byChance is an image by chance: many are small, some are not.
func byChance(r *rand.Rand) api.Image {
	var p api.Image
	for range r.IntN(1 + r.IntN(6)) {
		p.Shapes = append(p.Shapes, some(r, "IRF", 1, 16))
	}
	for i := range 1 + r.IntN(1+r.IntN(12)) {
		f := api.Function{Name: string("fgLx"[r.IntN(4)]) + strconv.Itoa(i), Body: body(r, 1+r.IntN(1+r.IntN(60)))}
		f.Sig = api.Signature{Args: some(r, "IRFP", 0, 5), Results: some(r, "IRF", 0, 5)}
		f.Locals = some(r, "IRFP", 0, r.IntN(50))
		p.Functions = append(p.Functions, f)
	}
	return p
}

// P10.1, P10.2: images by chance.
func TestP10_1ByChance(t *testing.T) {
	r := rand.New(rand.NewPCG(10, 1))
	for range 1500 {
		p := byChance(r)
		if image.Check(p) != api.OK {
			t.Fatalf("%v may not be", p)
		}
		lists(t, p)
	}
}

// tiny calls do with each body of so many instructions, out of nop, ret, call 0, and jmp and jz to each place, whose last one ends.
func tiny(n int, do func(body []api.Instr)) {
	choices := []api.Instr{{}, ret(), {Op: api.OpCall}}
	for place := range n {
		choices = append(choices, jmp(place), jz(place))
	}
	body := make([]api.Instr, n)
	var fill func(place int)
	fill = func(place int) {
		for _, x := range choices {
			body[place] = x
			switch {
			case place+1 < n:
				fill(place + 1)
			case x.Op == api.OpRet || x.Op == api.OpJmp:
				do(slices.Clone(body))
			}
		}
	}
	fill(0)
}

// P10.1, P10.2: all bodies of up to four instructions out of some.
func TestP10_1Tiny(t *testing.T) {
	count := 0
	for n := 1; n <= 4; n++ {
		tiny(n, func(body []api.Instr) {
			p := one(does("f", body...))
			lists(t, p)
			places(t, p)
			if got, want := listing.Targets(p.Functions[0]), targetsOf(body); !slices.Equal(got, want) {
				t.Fatalf("%v goes to %v, not to %v", body, got, want)
			}
			count++
		})
	}
	if count < 6000 {
		t.Errorf("only %d bodies", count)
	}
}
