package shape_test

import (
	"math"
	"slices"
	"testing"

	"backstay/api"
	"backstay/shape"
)

// P6.1: what may be a shape, and what may not.
func TestP6_1Check(t *testing.T) {
	for _, s := range shapes() {
		if e := shape.Check(s); e != api.OK {
			t.Errorf("%v: error %d", s, e)
		}
	}
	for _, s := range noShapes() {
		if e := shape.Check(s); e != api.ErrShape {
			t.Errorf("%v: error %d; want ErrShape", s, e)
		}
	}
}

// P6.1: of all short lists, those out of held types are shapes, and no others.
func TestP6_1CheckShort(t *testing.T) {
	may := 0
	for _, s := range lists(3, []int{-3, -2, -1, 0, 1, 2, 3, 4, 5, 6, 7}) {
		want := api.ErrShape
		if mayShape(s) {
			want = api.OK
			may++
		}
		if e := shape.Check(s); e != want {
			t.Errorf("%v: error %d; want %d", s, e, want)
		}
	}
	if may != 3+9+27 {
		t.Errorf("%d may be", may)
	}
}

// P6.1: as many cells as there may be, of each type, and one more.
func TestP6_1CheckCells(t *testing.T) {
	for n := range 40 {
		for _, x := range known() {
			want := api.ErrShape
			if n >= 1 && n <= api.MaxCells && x != api.TypeP {
				want = api.OK
			}
			if e := shape.Check(slices.Repeat([]int{x}, n)); e != want {
				t.Errorf("%d of %d: error %d; want %d", n, x, e, want)
			}
		}
	}
}

// P6.1: each cell's type; none of a cell that there is not.
func TestP6_1Cell(t *testing.T) {
	for _, s := range shapes() {
		for i, want := range s {
			if x, e := shape.Cell(s, i); x != want || e != api.OK {
				t.Errorf("cell %d of %v: %d, error %d", i, s, x, e)
			}
		}
		for _, i := range []int{math.MinInt, -1 << 32, -len(s), -2, -1, len(s), len(s) + 1, 17, 1 << 32, math.MaxInt} {
			if x, e := shape.Cell(s, i); x != 0 || e != api.ErrShape {
				t.Errorf("cell %d of %v: %d, error %d; want ErrShape", i, s, x, e)
			}
		}
	}
}

// P6.1: what may not be a shape has no cell, though a type that may be stands there.
func TestP6_1CellOfNoShape(t *testing.T) {
	for _, s := range noShapes() {
		for _, i := range []int{-1, 0, 1, len(s) / 2, len(s) - 1, len(s)} {
			if x, e := shape.Cell(s, i); x != 0 || e != api.ErrShape {
				t.Errorf("cell %d of %v: %d, error %d; want ErrShape", i, s, x, e)
			}
		}
	}
}

// P6.3: what may be a signature, and what may not.
func TestP6_3CheckSignature(t *testing.T) {
	for _, g := range append(signatures(), api.Signature{}, api.Signature{Args: []int{}, Results: []int{}}) {
		if e := shape.CheckSignature(g); e != api.OK {
			t.Errorf("%v: error %d", g, e)
		}
	}
	for _, g := range noSignatures() {
		if e := shape.CheckSignature(g); e != api.ErrSignature {
			t.Errorf("%v: error %d; want ErrSignature", g, e)
		}
	}
}

// P6.3: of all short lists, arguments of types and results of held ones make a signature, and no others.
func TestP6_3CheckSignatureShort(t *testing.T) {
	may := 0
	all := lists(2, []int{-1, 0, 1, 2, 3, 4, 5})
	for _, args := range all {
		for _, results := range all {
			g, want := api.Signature{Args: args, Results: results}, api.ErrSignature
			if maySignature(g) {
				want = api.OK
				may++
			}
			if e := shape.CheckSignature(g); e != want {
				t.Errorf("%v: error %d; want %d", g, e, want)
			}
		}
	}
	if may != (1+4+16)*(1+3+9) {
		t.Errorf("%d may be", may)
	}
}

// P6.3: arguments and results are at most MaxSlots together, however they are shared out.
func TestP6_3CheckSignatureSlots(t *testing.T) {
	for args := range 70 {
		for results := range 70 {
			want := api.ErrSignature
			if args+results <= api.MaxSlots {
				want = api.OK
			}
			g := api.Signature{Args: slices.Repeat([]int{api.TypeP}, args), Results: slices.Repeat([]int{api.TypeR}, results)}
			if e := shape.CheckSignature(g); e != want {
				t.Errorf("%d and %d: error %d; want %d", args, results, e, want)
			}
		}
	}
}

// P6.3: two signatures are the same, if both of their lists are.
func TestP6_3Same(t *testing.T) {
	all := signatures()
	all = append(all[:300:300], all[len(all)-40:]...)
	for i, a := range all {
		for _, b := range all {
			if got := shape.Same(a, b); got != like(a, b) {
				t.Errorf("%v and %v: %t", a, b, got)
			}
		}
		if again := (api.Signature{Args: slices.Clone(a.Args), Results: slices.Clone(a.Results)}); !shape.Same(a, again) {
			t.Errorf("%d: %v is not the same as itself", i, a)
		}
	}
}

// P6.3: signatures that are nearly the same, written out.
func TestP6_3SameWrittenOut(t *testing.T) {
	for _, c := range []struct {
		a, b api.Signature
		want bool
	}{
		{sig("", ""), sig("", ""), true},
		{sig("", ""), api.Signature{Args: []int{}, Results: []int{}}, true},
		{sig("I", ""), api.Signature{Args: []int{1}, Results: []int{}}, true},
		{sig("IRFP", "IRF"), sig("IRFP", "IRF"), true},
		{sig("I", ""), sig("", "I"), false},
		{sig("I", ""), sig("", ""), false},
		{sig("", "I"), sig("", ""), false},
		{sig("IR", "F"), sig("I", "RF"), false},
		{sig("IR", "F"), sig("RI", "F"), false},
		{sig("P", "IR"), sig("P", "RI"), false},
		{sig("I", "I"), sig("I", "II"), false},
		{sig("I", "I"), sig("II", "I"), false},
		{sig("I", "I"), sig("I", "R"), false},
		{sig("I", "I"), sig("P", "I"), false},
		{sig("IIIIR", ""), sig("IIIIF", ""), false},
		// Those that may not be have types, too.
		{sig("", "P"), sig("", "P"), true},
		{sig("", "P"), sig("P", ""), false},
		{api.Signature{Args: []int{9}}, api.Signature{Args: []int{9}}, true},
		{api.Signature{Args: []int{9}}, api.Signature{Args: []int{-9}}, false},
		{api.Signature{Args: long(99, 1, known())}, api.Signature{Args: long(99, 1, known())}, true},
		{api.Signature{Args: long(99, 1, known())}, api.Signature{Args: long(98, 1, known())}, false},
	} {
		if got := shape.Same(c.a, c.b); got != c.want {
			t.Errorf("%v and %v: %t", c.a, c.b, got)
		}
		if got := shape.Same(c.b, c.a); got != c.want {
			t.Errorf("%v and %v: %t", c.b, c.a, got)
		}
	}
}

// The chapter's examples.
func TestP6_1ExampleCheck(t *testing.T) {
	if e := shape.Check(api.Shape{api.TypeP}); e != api.ErrShape {
		t.Errorf("error %d", e)
	}
}

func TestP6_3ExampleCheckSignature(t *testing.T) {
	if e := shape.CheckSignature(api.Signature{Results: []int{api.TypeP}}); e != api.ErrSignature {
		t.Errorf("error %d", e)
	}
}
