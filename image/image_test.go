package image_test

import (
	"slices"
	"strings"
	"testing"

	"backstay/api"
	"backstay/image"
)

// P8.1: what may be an image, and what may not.
func TestP8_1Check(t *testing.T) {
	for i, p := range images() {
		if e := image.Check(p); e != api.OK {
			t.Errorf("%d, %v: error %d", i, p, e)
		}
	}
	for i, p := range noImages() {
		if e := image.Check(p); e != api.ErrImage {
			t.Errorf("%d, %v: error %d; want ErrImage", i, p, e)
		}
	}
}

// P8.1: each number of shapes, and of functions, up to the greatest, and beyond it.
func TestP8_1CheckNumbers(t *testing.T) {
	s, f := shaped(70, 1), some(70, 1)
	for shapes := range 71 {
		for functions := range 71 {
			want := api.ErrImage
			if shapes <= 64 && functions >= 1 && functions <= 64 {
				want = api.OK
			}
			if e := image.Check(api.Image{Shapes: s[:shapes], Functions: f[:functions]}); e != want {
				t.Errorf("%d shapes, %d functions: error %d; want %d", shapes, functions, e, want)
			}
		}
	}
}

// P8.1: of functions two of which have one name, wherever these stand, there is no image; of a byte more, or another case, there is one.
func TestP8_1CheckNames(t *testing.T) {
	var p api.Image
	for _, f := range some(64, 0) {
		p.Functions = append(p.Functions, api.Function{Name: f.Name, Body: ret()})
	}
	for i := range p.Functions {
		kept := p.Functions[i].Name
		check := func(name string, want api.Errno) {
			p.Functions[i].Name = name
			if e := image.Check(p); e != want {
				t.Errorf("%d is %q: error %d; want %d", i, name, e, want)
			}
			p.Functions[i].Name = kept
		}
		for j := range p.Functions {
			other := p.Functions[j].Name
			check(other+"a", api.OK)
			check(strings.ToUpper(other), api.OK)
			if i == j {
				check(other, api.OK)
			} else {
				check(other, api.ErrImage)
			}
		}
	}
}

// P8.1: no list and an empty one are the same.
func TestP8_1CheckOfEmpty(t *testing.T) {
	p := least()
	p.Shapes = []api.Shape{}
	if e := image.Check(p); e != api.OK {
		t.Errorf("error %d", e)
	}
	p.Functions = []api.Function{}
	if e := image.Check(p); e != api.ErrImage {
		t.Errorf("of no function: error %d; want ErrImage", e)
	}
}

// findOf is what Find answers, as the chapter tells.
func findOf(p api.Image, name string) (int, api.Errno) {
	if at := slices.IndexFunc(p.Functions, func(f api.Function) bool { return f.Name == name }); at >= 0 {
		return at, api.OK
	}
	return 0, api.ErrFind
}

// P8.2: each name that an image has, and such as are almost one; of images that may not be, too.
func TestP8_2Find(t *testing.T) {
	found, lost := 0, 0
	for _, p := range append(images(), noImages()...) {
		asked := []string{"", "f", "g", "F0", "f01", "f00", "main", "\x00", "f0\x00", " f0", "\u00e9", strings.Repeat("z", 1<<16)}
		for i, f := range p.Functions {
			if i < 70 {
				asked = append(asked, f.Name, f.Name+"0", strings.ToUpper(f.Name), f.Name[:len(f.Name)/2])
			}
		}
		for _, name := range asked {
			want, wantE := findOf(p, name)
			got, e := image.Find(p, name)
			if got != want || e != wantE {
				t.Fatalf("%q of %v: %d, error %d; want %d, %d", name, p, got, e, want, wantE)
			}
			if e == api.OK {
				found++
			} else {
				lost++
			}
		}
	}
	if found < 1000 || lost < 1000 {
		t.Errorf("%d were found, %d were not", found, lost)
	}
}

// P8.2: of a name that several have, the first one is found.
func TestP8_2FindFirst(t *testing.T) {
	for i := range 64 {
		p := api.Image{Functions: some(64, 0)}
		p.Functions[i].Name = "twin"
		for j := i; j >= 0; j-- {
			p.Functions[j].Name = "twin"
			if at, e := image.Find(p, "twin"); at != j || e != api.OK {
				t.Errorf("%d to %d: %d, error %d", j, i, at, e)
			}
		}
	}
	if at, e := image.Find(api.Image{Functions: slices.Repeat(some(3, 0), 5)}, "f2"); at != 2 || e != api.OK {
		t.Errorf("%d, error %d", at, e)
	}
}

// P8.2: in an image of no function nothing is found.
func TestP8_2FindNothing(t *testing.T) {
	for _, p := range []api.Image{{}, {Shapes: shaped(3, 1)}, {Functions: []api.Function{}}} {
		for _, name := range []string{"", "f", "main"} {
			if at, e := image.Find(p, name); at != 0 || e != api.ErrFind {
				t.Errorf("%q: %d, error %d; want ErrFind", name, at, e)
			}
		}
	}
	// That a name may not be does not matter, if a function has it.
	p := api.Image{Functions: []api.Function{{Name: "a"}, {Name: "2 b"}, {}}}
	for i, f := range p.Functions {
		if at, e := image.Find(p, f.Name); at != i || e != api.OK {
			t.Errorf("%q: %d, error %d; want %d", f.Name, at, e, i)
		}
	}
}

// P8.2: all signatures, in order, and how many shapes there are; of images that may not be, too.
func TestP8_2Context(t *testing.T) {
	for _, p := range append(images(), noImages()...) {
		c := image.Context(p)
		if c.Shapes != len(p.Shapes) || len(c.Sigs) != len(p.Functions) {
			t.Fatalf("%v: %v", p, c)
		}
		for i, g := range c.Sigs {
			want := p.Functions[i].Sig
			if !slices.Equal(g.Args, want.Args) || !slices.Equal(g.Results, want.Results) {
				t.Fatalf("%v: signature %d is %v; want %v", p, i, g, want)
			}
		}
	}
}

// P8.2: contexts, written out.
func TestP8_2ContextWrittenOut(t *testing.T) {
	if c := image.Context(api.Image{}); len(c.Sigs) != 0 || c.Shapes != 0 {
		t.Errorf("of nothing: %v", c)
	}
	// Neither the shapes nor the functions may be, nor the signatures.
	p := api.Image{
		Shapes:    make([]api.Shape, 100),
		Functions: []api.Function{{Sig: api.Signature{Args: []int{-9, 7}, Results: []int{api.TypeP}}}, {}, {Name: "a"}, {Name: "a", Sig: sig("P", "RR"), Locals: typed("II")}},
	}
	want := [][2][]int{{{-9, 7}, {4}}, {}, {}, {{4}, {2, 2}}}
	c := image.Context(p)
	if c.Shapes != 100 || len(c.Sigs) != len(want) {
		t.Fatalf("%v", c)
	}
	for i, w := range want {
		if !slices.Equal(c.Sigs[i].Args, w[0]) || !slices.Equal(c.Sigs[i].Results, w[1]) {
			t.Errorf("signature %d is %v; want %v", i, c.Sigs[i], w)
		}
	}
}

// P8.2: two images are the same, if all their shapes and functions are.
func TestP8_2Same(t *testing.T) {
	all := append(images(), noImages()[:60]...)
	for i, p := range all {
		for _, q := range all {
			if got := image.Same(p, q); got != like(p, q) {
				t.Errorf("%v and %v: %t", p, q, got)
			}
		}
		if !image.Same(p, again(p)) {
			t.Errorf("%d: %v is not the same as itself", i, p)
		}
	}
}

// P8.2: images that differ in one thing alone.
func TestP8_2SameButForOne(t *testing.T) {
	for i, change := range []func(p *api.Image){
		func(p *api.Image) { p.Shapes = nil },
		func(p *api.Image) { p.Shapes = p.Shapes[:1] },
		func(p *api.Image) { p.Shapes = p.Shapes[1:] },
		func(p *api.Image) { p.Shapes = append(p.Shapes, nil) },
		func(p *api.Image) { p.Shapes[0], p.Shapes[1] = p.Shapes[1], p.Shapes[0] },
		func(p *api.Image) { p.Shapes[0] = p.Shapes[0][:2] },
		func(p *api.Image) { p.Shapes[1] = nil },
		func(p *api.Image) { p.Shapes[1][4] = api.TypeF },
		func(p *api.Image) { p.Shapes[0] = typed("IR"); p.Shapes[1] = typed("FRRRRI") },
		func(p *api.Image) { p.Functions = nil },
		func(p *api.Image) { p.Functions = p.Functions[:2] },
		func(p *api.Image) { p.Functions = p.Functions[1:] },
		func(p *api.Image) { p.Functions = append(p.Functions, api.Function{}) },
		func(p *api.Image) { p.Functions[1], p.Functions[2] = p.Functions[2], p.Functions[1] },
		func(p *api.Image) { p.Functions[0].Name = "Main" },
		func(p *api.Image) { p.Functions[1].Sig.Args = typed("PI") },
		func(p *api.Image) { p.Functions[1].Sig = sig("I", "PR") },
		func(p *api.Image) { p.Functions[2].Sig.Results = nil },
		func(p *api.Image) { p.Functions[2].Locals = typed("IRP") },
		func(p *api.Image) { p.Functions[2].Body = ret() },
		func(p *api.Image) { p.Functions[2].Body[0].B = 1 },
	} {
		p, q := example(), example()
		change(&q)
		if image.Same(p, q) || image.Same(q, p) {
			t.Errorf("change %d: %v is the same as %v", i, q, p)
		}
	}
	none := api.Image{Shapes: []api.Shape{}, Functions: []api.Function{}}
	if !image.Same(none, api.Image{}) || !image.Same(api.Image{}, none) {
		t.Error("empty lists are not the same as none")
	}
	one, two := api.Image{Shapes: []api.Shape{{}}}, api.Image{Shapes: []api.Shape{nil}}
	if !image.Same(one, two) || image.Same(one, none) || image.Same(none, two) {
		t.Error("an empty shape is not the same as none, or is no shape")
	}
}

// P8.2: a copy is the same, of images that may not be, too.
func TestP8_2Copy(t *testing.T) {
	for _, p := range append(images(), noImages()...) {
		if q := image.Copy(p); !like(p, q) || !image.Same(p, q) {
			t.Errorf("%v: %v", p, q)
		}
	}
}
