package listing_test

import (
	"math/rand/v2"
	"slices"
	"testing"

	"backstay/api"
	"backstay/function"
	"backstay/image"
	"backstay/listing"
)

// P10.2: lines and instructions of an image that has something of all, written out.
func TestP10_2WrittenOut(t *testing.T) {
	p := everything()
	lines := map[int][2]int{
		5: {0, 0}, 7: {0, 1}, 8: {0, 2}, 9: {0, 3}, 10: {0, 4}, 11: {0, 5}, 13: {0, 6}, 14: {0, 7},
		17: {1, 0}, 18: {1, 1}, 19: {1, 2}, 21: {2, 0}, 22: {2, 1},
	}
	for line := -3; line <= 30; line++ {
		fn, place, e := listing.Place(p, line)
		at, ok := lines[line]
		switch {
		case ok && (fn != at[0] || place != at[1] || e != api.OK):
			t.Errorf("line %d is told as %d %d %d", line, fn, place, e)
		case !ok && (fn != 0 || place != 0 || e != api.ErrListing):
			t.Errorf("line %d, no instruction's, is told as %d %d %d", line, fn, place, e)
		}
		if n, e := listing.Line(p, at[0], at[1]); ok && (n != line || e != api.OK) {
			t.Errorf("%v is told as line %d %d, not %d", at, n, e, line)
		}
	}
	places(t, p)
}

// P10.2: of functions and places that there are not no line is told.
func TestP10_2LineOfNone(t *testing.T) {
	p := everything()
	ends := []int{8, 3, 2}
	for _, fn := range []int{-1 << 63, -3, -2, -1, 0, 1, 2, 3, 4, 63, 64, 1<<63 - 1} {
		for _, place := range []int{-1 << 63, -9, -8, -2, -1, 0, 1, 2, 3, 7, 8, 9, 511, 512, 1 << 32, 1<<63 - 1} {
			there := fn >= 0 && fn < 3 && place >= 0 && place < ends[fn]
			n, e := listing.Line(p, fn, place)
			if there && (n == 0 || e != api.OK) || !there && (n != 0 || e != api.ErrListing) {
				t.Errorf("%d %d is told as line %d %d", fn, place, n, e)
			}
		}
	}
}

// P10.2: of an image that may not be no line and no instruction is told.
func TestP10_2WrongImages(t *testing.T) {
	for _, p := range wrongImages() {
		for _, fn := range []int{-1, 0, 1, 64} {
			for _, place := range []int{-1, 0, 1} {
				if n, e := listing.Line(p, fn, place); n != 0 || e != api.ErrListing {
					t.Errorf("%d %d of %v is told as line %d %d", fn, place, p, n, e)
				}
			}
		}
		for line := -1; line < 12; line++ {
			if fn, place, e := listing.Place(p, line); fn != 0 || place != 0 || e != api.ErrListing {
				t.Errorf("line %d of %v is told as %d %d %d", line, p, fn, place, e)
			}
		}
	}
}

// P10.2: lines of a body of the most instructions, with and without labels.
func TestP10_2Most(t *testing.T) {
	all := make([]api.Instr, 512)
	for place := range all {
		all[place] = jmp(511 - place)
	}
	p := api.Image{Shapes: []api.Shape{{1}, {2}}, Functions: []api.Function{does("f", nops(511)...), {Name: "g", Locals: typed("P"), Body: all}, does("h", all...)}}
	for _, c := range []struct{ fn, place, line int }{
		{0, 0, 4}, {0, 1, 5}, {0, 511, 515}, {1, 0, 519}, {1, 1, 521}, {1, 511, 1541}, {2, 0, 1544}, {2, 511, 2566},
	} {
		if n, e := listing.Line(p, c.fn, c.place); n != c.line || e != api.OK {
			t.Errorf("%v is told as line %d %d", c, n, e)
		}
		if fn, place, e := listing.Place(p, c.line); fn != c.fn || place != c.place || e != api.OK {
			t.Errorf("%v is told as %d %d %d", c, fn, place, e)
		}
	}
	for _, line := range []int{1, 2, 3, 516, 517, 518, 520, 1540, 1542, 1543, 2565, 2567} {
		if fn, place, e := listing.Place(p, line); fn != 0 || place != 0 || e != api.ErrListing {
			t.Errorf("line %d, no instruction's, is told as %d %d %d", line, fn, place, e)
		}
	}
}

// P10.2: lines and instructions of images by chance; of such as one thing was changed in, too, that may or may not be.
func TestP10_2ByChance(t *testing.T) {
	r := rand.New(rand.NewPCG(10, 2))
	may, not := 0, 0
	for range 160 {
		p := byChance(r)
		places(t, p)
		f := &p.Functions[r.IntN(len(p.Functions))]
		switch x := &f.Body[r.IntN(len(f.Body))]; r.IntN(5) {
		case 0:
			x.Op += r.IntN(7) - 3
		case 1:
			x.A += r.Int64N(100) - 50
		case 2:
			x.B += r.Int64N(3) - 1
		case 3:
			f.Name = p.Functions[0].Name
		case 4:
			f.Locals = append(f.Locals, r.IntN(6))
		}
		if image.Check(p) == api.OK {
			may++
			lists(t, p)
			places(t, p)
			continue
		}
		not++
		n, e := listing.Line(p, 0, 0)
		fn, place, ee := listing.Place(p, 2+len(p.Shapes))
		if n != 0 || e != api.ErrListing || fn != 0 || place != 0 || ee != api.ErrListing || listing.List(p)+listing.Plain(p)+listing.Numbered(p) != "" {
			t.Fatalf("%v is told of", p)
		}
	}
	if may < 30 || not < 30 {
		t.Errorf("%d may be, %d may not", may, not)
	}
}

// P10.2: where functions go: nowhere, to themselves, ahead, behind, to the first place, to the last one, some by several.
func TestP10_2Targets(t *testing.T) {
	all := make([]api.Instr, 512)
	for place := range all {
		all[place] = jz((place*3 + 5) % 512)
	}
	all[511].Op = api.OpJmp
	every := make([]int, 512)
	for place := range every {
		every[place] = place
	}
	for _, c := range []struct {
		body []api.Instr
		want []int
	}{
		{nops(0), nil}, {nops(1), nil}, {nops(511), nil},
		{[]api.Instr{jmp(0)}, []int{0}},
		{[]api.Instr{jmp(1), jmp(0)}, []int{0, 1}},
		{[]api.Instr{jz(1), jz(1), jmp(1)}, []int{1}},
		{[]api.Instr{jz(4), jz(0), jz(2), jz(4), jmp(0)}, []int{0, 2, 4}},
		{[]api.Instr{jz(3), {Op: api.OpInt, A: 1}, {Op: api.OpCall, A: 2}, ret()}, []int{3}},
		{append(nops(510), jmp(511)), []int{511}},
		{append(nops(510), jmp(0)), []int{0}},
		{all, every},
	} {
		f := api.Function{Name: "f", Sig: api.Signature{Args: typed("PI"), Results: typed("R")}, Locals: typed("F"), Body: c.body}
		if got := listing.Targets(f); !slices.Equal(got, c.want) {
			t.Errorf("%v goes to %v, not to %v", c.body, got, c.want)
		}
	}
}

// P10.2: a function that may not be goes nowhere.
func TestP10_2TargetsOfWrong(t *testing.T) {
	for _, f := range wrongFunctions() {
		if l := listing.Targets(f); l != nil {
			t.Errorf("%v goes to %v", f, l)
		}
	}
}

// P10.2: where functions by chance go.
func TestP10_2TargetsByChance(t *testing.T) {
	r := rand.New(rand.NewPCG(10, 3))
	for range 1000 {
		for _, f := range byChance(r).Functions {
			if got, want := listing.Targets(f), targetsOf(f.Body); !slices.Equal(got, want) {
				t.Fatalf("%v goes to %v, not to %v", f, got, want)
			}
			f.Body[r.IntN(len(f.Body))].A += r.Int64N(20)
			if got := listing.Targets(f); function.Check(f) != api.OK && got != nil {
				t.Fatalf("%v goes to %v", f, got)
			}
		}
	}
}
