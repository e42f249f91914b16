package listing_test

import (
	"math/rand/v2"
	"slices"
	"strconv"
	"strings"
	"testing"
	"unsafe"

	"backstay/api"
	"backstay/asm"
	"backstay/image"
	"backstay/listing"
)

// spoil writes over a list, and over all memory behind it.
func spoil[T any](l []T, with T) {
	l = l[:cap(l)]
	for i := range l {
		l[i] = with
	}
}

// spoilAll writes over all lists of an image.
func spoilAll(p api.Image) {
	for _, s := range p.Shapes {
		spoil(s, -9)
	}
	for _, f := range p.Functions {
		spoil(f.Sig.Args, -9)
		spoil(f.Sig.Results, -9)
		spoil(f.Locals, -9)
		spoil(f.Body, api.Instr{Op: -9, A: -9, B: -9})
	}
	spoil(p.Shapes, api.Shape{-9})
	spoil(p.Functions, api.Function{Name: "spoilt"})
}

// P10.3: what is handed in stays as it was, of images that may be and of such as may not.
func TestP10_3OnlyRead(t *testing.T) {
	r := rand.New(rand.NewPCG(10, 4))
	images := append(wrongImages(), everything(), example())
	for range 100 {
		images = append(images, byChance(r))
	}
	for _, p := range images {
		before := image.Copy(p)
		listing.List(p)
		listing.Plain(p)
		listing.Numbered(p)
		listing.Line(p, 0, 0)
		listing.Line(p, 99, 99)
		listing.Place(p, 3)
		listing.Place(p, 999)
		for _, f := range p.Functions {
			listing.Targets(f)
		}
		if !image.Same(p, before) {
			t.Fatalf("%v is now %v", before, p)
		}
	}
}

// P10.3: memory behind the lists that are handed in is not written either.
func TestP10_3OnlyReadBehind(t *testing.T) {
	whole := []api.Instr{jz(2), jz(2), ret(), jz(77), jz(78)}
	shapes := []api.Shape{{1}, {2}}
	functions := []api.Function{does("f", whole[:3]...), does("spare")}
	functions[0].Body = whole[:3]
	p := api.Image{Shapes: shapes[:1], Functions: functions[:1]}
	listing.List(p)
	listing.Plain(p)
	listing.Numbered(p)
	listing.Line(p, 0, 2)
	listing.Place(p, 3)
	listing.Targets(functions[0])
	if !slices.Equal(whole, []api.Instr{jz(2), jz(2), ret(), jz(77), jz(78)}) || shapes[1][0] != 2 || functions[1].Name != "spare" {
		t.Error(whole, shapes, functions)
	}
}

// P10.3: what was answered stays as it was when what was handed in is written over, and no call keeps anything of it.
func TestP10_3KeepsNothing(t *testing.T) {
	r := rand.New(rand.NewPCG(10, 5))
	for range 200 {
		p := byChance(r)
		q := image.Copy(p)
		got, want := listings(p)
		var targets [][]int
		for _, f := range p.Functions {
			targets = append(targets, listing.Targets(f))
		}
		spoilAll(p)
		if got != want {
			t.Fatalf("the listings of %v have changed:\n%v", q, got)
		}
		for fn, l := range targets {
			if !slices.Equal(l, targetsOf(q.Functions[fn].Body)) {
				t.Fatalf("%v goes to %v, when it was written over", q.Functions[fn], l)
			}
		}
		lists(t, q)
	}
}

// P10.3: a listing shares no bytes with the names that it has.
func TestP10_3TextIsNew(t *testing.T) {
	name := []byte("changing")
	p := one(does(unsafe.String(&name[0], len(name)), api.Instr{Op: api.OpCall}, ret()))
	got, want := listings(p)
	for how := range want {
		want[how] = strings.Clone(want[how])
	}
	copy(name, "elsewise")
	if got != want {
		t.Error(got)
	}
}

// P10.3: targets that were written into are answered again as they were, and the function is as it was.
func TestP10_3TargetsAreNew(t *testing.T) {
	f := does("f", jz(4), jz(0), jz(2), jz(4), jmp(0))
	before := slices.Clone(f.Body)
	one, other := listing.Targets(f), listing.Targets(f)
	spoil(one, -9)
	if want := []int{0, 2, 4}; !slices.Equal(other, want) || !slices.Equal(listing.Targets(f), want) || !slices.Equal(f.Body, before) {
		t.Error(other, listing.Targets(f), f.Body)
	}
}

// reads fails unless all three listings of an image are read as it, and two of them are their own normal ones.
func reads(t *testing.T, p api.Image) {
	t.Helper()
	list, plain, numbered := listing.List(p), listing.Plain(p), listing.Numbered(p)
	for _, text := range []string{list, plain, numbered} {
		if len(text) > api.MaxText {
			continue
		}
		if q, line, e := asm.Parse(text); e != api.OK || line != 0 || !image.Same(p, q) {
			t.Fatalf("%v is read as %v, %d %d, of\n%s", p, q, line, e, text)
		}
	}
	if asm.Normal(list) != list || asm.Normal(plain) != plain {
		t.Fatalf("no normal ones:\n%s\n%s", list, plain)
	}
	if asm.Normal(numbered) != plain {
		t.Fatalf("the plain listing is no normal one of\n%s", numbered)
	}
}

// eachOnce fails unless each instruction of an image has one line, in the order of lines, and each line one at most.
func eachOnce(t *testing.T, p api.Image) {
	t.Helper()
	lines := strings.Count(listing.List(p), "\n")
	had := map[int]bool{}
	last := 0
	for fn, f := range p.Functions {
		for place := range f.Body {
			n, e := listing.Line(p, fn, place)
			if e != api.OK || n <= last || n > lines || had[n] {
				t.Fatalf("%d %d of %v has line %d %d, behind %d, of %d", fn, place, p, n, e, last, lines)
			}
			if back, at, e := listing.Place(p, n); back != fn || at != place || e != api.OK {
				t.Fatalf("line %d of %v has %d %d %d, not %d %d", n, p, back, at, e, fn, place)
			}
			last, had[n] = n, true
		}
	}
	for line := -2; line < lines+3; line++ {
		if fn, place, e := listing.Place(p, line); (e == api.OK) != had[line] || e != api.OK && (fn != 0 || place != 0) {
			t.Fatalf("line %d of %v has %d %d %d", line, p, fn, place, e)
		}
	}
}

// P10.4: what layer 9 reads of all three listings of images by chance; their lines, and their instructions.
func TestP10_4ByChance(t *testing.T) {
	r := rand.New(rand.NewPCG(10, 6))
	reads(t, everything())
	eachOnce(t, everything())
	for i := range 1000 {
		p := byChance(r)
		reads(t, p)
		if i%10 == 0 {
			eachOnce(t, p)
		}
	}
}

// P10.4: likewise of all bodies of up to four instructions out of some.
func TestP10_4Tiny(t *testing.T) {
	for n := 1; n <= 4; n++ {
		tiny(n, func(body []api.Instr) {
			reads(t, one(does("f", body...), does("L0", body...)))
			eachOnce(t, one(does("f", body...)))
		})
	}
}

// P10.4: the line of an instruction in the listing is where its text stands.
func TestP10_4LinesSay(t *testing.T) {
	r := rand.New(rand.NewPCG(10, 7))
	for range 100 {
		p := byChance(r)
		list := strings.Split(listing.List(p), "\n")
		for fn, f := range p.Functions {
			for place, x := range f.Body {
				n, _ := listing.Line(p, fn, place)
				if text := instruction(x, p, f, withNames); list[n-1] != text {
					t.Fatalf("line %d of %v is %q, not %q", n, p, list[n-1], text)
				}
			}
		}
	}
}

// P10.4: images that have the most of all that fits into a text.
func TestP10_4Most(t *testing.T) {
	var many api.Image
	for range 64 {
		many.Shapes = append(many.Shapes, typed(strings.Repeat("IRFF", 4)))
	}
	for i := range 64 {
		f := api.Function{Name: strings.Repeat("n", 30) + strconv.Itoa(10+i), Sig: api.Signature{Args: typed(strings.Repeat("IRFP", 8)), Results: typed(strings.Repeat("IRF", 5))}, Locals: typed(strings.Repeat("P", 17))}
		for place := range 30 {
			f.Body = append(f.Body, api.Instr{Op: calls()[place%5], A: int64((i*7 + place) % 64)}, jz(place*2%60))
		}
		f.Body = append(f.Body, ret())
		many.Functions = append(many.Functions, f)
	}
	all := make([]api.Instr, 512)
	for place := range all {
		all[place] = jmp(511 - place)
	}
	long := one(does("f", all...), does("g", nops(511)...), does("h", all...))
	for _, p := range []api.Image{many, long} {
		if n := len(listing.Numbered(p)); n > api.MaxText {
			t.Fatalf("%d bytes are too many", n)
		}
		lists(t, p)
		reads(t, p)
	}
}

// lengthy is an image without labels whose plain listing has so many bytes.
func lengthy(bytes int) api.Image {
	var p api.Image
	for i := 0; bytes > 0; i++ {
		f := does("f" + strconv.Itoa(10+i))
		bytes -= len("func f10 >\nret\n")
		for len(f.Body) < 511 && bytes > 0 {
			// A line of 25 bytes at most, of 6 at least; what is left is enough for one more.
			size := min(25, bytes)
			if rest := bytes - size; rest > 0 && rest < 30 {
				size = min(size, 15)
			}
			f.Body = append(f.Body, api.Instr{Op: api.OpInt, A: digits(size - len("int \n"))})
			bytes -= size
		}
		f.Body = append(f.Body, ret())
		p.Functions = append(p.Functions, f)
	}
	return p
}

// digits is a number that has so many of them, or a sign and one less.
func digits(n int) int64 {
	if n > 18 {
		return -1 << 63 / ten(20-n)
	}
	return ten(n - 1)
}

// ten is a power of 10.
func ten(n int) int64 {
	all := int64(1)
	for range n {
		all *= 10
	}
	return all
}

// P10.4: a listing of just MaxText bytes is read; one that is longer is its own normal one, too.
func TestP10_4LongestText(t *testing.T) {
	for _, bytes := range []int{api.MaxText - 1, api.MaxText, api.MaxText + 1, api.MaxText + 100} {
		p := lengthy(bytes)
		lists(t, p)
		plain, list := listing.Plain(p), listing.List(p)
		if len(plain) != bytes || plain != list {
			t.Fatalf("%d bytes, not %d", len(plain), bytes)
		}
		reads(t, p)
		q, line, e := asm.Parse(plain)
		if bytes <= api.MaxText && (e != api.OK || !image.Same(p, q)) || bytes > api.MaxText && (line != 0 || e != api.ErrText) {
			t.Errorf("%d bytes: %d %d", bytes, line, e)
		}
	}
}
