package function_test

import (
	"slices"
	"strings"
	"testing"

	"backstay/api"
	"backstay/function"
)

// P7.1: what is a name, and what is none.
func TestP7_1Named(t *testing.T) {
	for _, s := range names() {
		if e := function.Named(s); e != api.OK {
			t.Errorf("%q: error %d", s, e)
		}
	}
	for _, s := range noNames() {
		if e := function.Named(s); e != api.ErrName {
			t.Errorf("%q: error %d; want ErrName", s, e)
		}
	}
}

// P7.1: names of each length, up to the longest, and beyond it.
func TestP7_1NamedLengths(t *testing.T) {
	for n := range 300 {
		want := api.ErrName
		if n >= 1 && n <= api.MaxName {
			want = api.OK
		}
		for _, s := range []string{strings.Repeat("q", n), ("Q" + strings.Repeat("0", n))[:n]} {
			if e := function.Named(s); e != want {
				t.Errorf("%q: error %d; want %d", s, e, want)
			}
		}
	}
}

// P7.1: each byte, and each two, alone and at the ends of longer texts: only letters begin a name, only these and digits go on with it.
func TestP7_1NamedBytes(t *testing.T) {
	may := 0
	for x := range 256 {
		for y := range 256 {
			two := string([]byte{byte(x), byte(y)})
			for _, s := range []string{two, two[:1], "a" + two, two + "a", "a" + two + strings.Repeat("a", 29), strings.Repeat("a", 30) + two, strings.Repeat("a", 31) + two} {
				want := api.ErrName
				if isName(s) {
					want = api.OK
				}
				if e := function.Named(s); e != want {
					t.Fatalf("%q: error %d; want %d", s, e, want)
				}
			}
			if function.Named(two) == api.OK {
				may++
			}
		}
	}
	if may != 52*62 {
		t.Errorf("%d of two bytes are names", may)
	}
}

// P7.1: what may be a function, and what may not.
func TestP7_1Check(t *testing.T) {
	for _, f := range functions() {
		if e := function.Check(f); e != api.OK {
			t.Errorf("%v: error %d", f, e)
		}
	}
	for _, f := range noFunctions() {
		if e := function.Check(f); e != api.ErrFunction {
			t.Errorf("%v: error %d; want ErrFunction", f, e)
		}
	}
}

// P7.1: no list and an empty one are the same.
func TestP7_1CheckOfEmpty(t *testing.T) {
	f := api.Function{Name: "f", Sig: api.Signature{Args: []int{}, Results: []int{}}, Locals: []int{}, Body: bodies()[0].l}
	if e := function.Check(f); e != api.OK {
		t.Errorf("error %d", e)
	}
	f.Body = []api.Instr{}
	if e := function.Check(f); e != api.ErrFunction {
		t.Errorf("of no body: error %d; want ErrFunction", e)
	}
}

// P7.1: arguments, results and locals are at most MaxSlots together, however they are shared out.
func TestP7_1CheckSlots(t *testing.T) {
	most := slices.Repeat([]int{api.TypeR}, 70)
	for args := range 70 {
		for results := range 70 {
			for locals := max(0, 62-args-results); locals <= max(3, 67-args-results); locals++ {
				want := api.ErrFunction
				if args+results+locals <= api.MaxSlots {
					want = api.OK
				}
				f := example()
				f.Sig, f.Locals = api.Signature{Args: most[:args], Results: most[:results]}, most[:locals]
				if e := function.Check(f); e != want {
					t.Fatalf("%d, %d and %d: error %d; want %d", args, results, locals, e, want)
				}
			}
		}
	}
}

// P7.1: each type wherever a slot may have one, the pointer among the locals, too, but not among the results.
func TestP7_1CheckTypes(t *testing.T) {
	for _, x := range append(noTypes(), known()...) {
		isType := slices.Contains(known(), x)
		for _, c := range []struct {
			args, results, locals []int
			may                   bool
		}{
			{[]int{x}, nil, nil, isType},
			{nil, []int{x}, nil, isType && x != api.TypeP},
			{nil, nil, []int{x}, isType},
			{typed("IP"), typed("R"), []int{api.TypeF, x}, isType},
			{typed("IP"), []int{api.TypeF, x}, typed("P"), isType && x != api.TypeP},
			{[]int{api.TypeF, x}, typed("R"), typed("P"), isType},
		} {
			f := example()
			f.Sig, f.Locals = api.Signature{Args: c.args, Results: c.results}, c.locals
			want := api.ErrFunction
			if c.may {
				want = api.OK
			}
			if e := function.Check(f); e != want {
				t.Errorf("%v: error %d; want %d", f, e, want)
			}
		}
	}
}

// P7.3: two functions are the same, if their names, all their lists and their bodies are.
func TestP7_3Same(t *testing.T) {
	all := append(functions(), noFunctions()...)
	for i, f := range all {
		for _, g := range all {
			if got := function.Same(f, g); got != like(f, g) {
				t.Errorf("%v and %v: %t", f, g, got)
			}
		}
		if !function.Same(f, again(f)) {
			t.Errorf("%d: %v is not the same as itself", i, f)
		}
	}
}

// P7.3: functions that differ in one thing alone.
func TestP7_3SameButForOne(t *testing.T) {
	ret := bodies()[0].l
	f := api.Function{Name: "f", Sig: sig("IP", "RF"), Locals: typed("FI"), Body: ret}
	for _, g := range []api.Function{
		{Name: "g", Sig: sig("IP", "RF"), Locals: typed("FI"), Body: ret},
		{Name: "F", Sig: sig("IP", "RF"), Locals: typed("FI"), Body: ret},
		{Name: "ff", Sig: sig("IP", "RF"), Locals: typed("FI"), Body: ret},
		{Name: "", Sig: sig("IP", "RF"), Locals: typed("FI"), Body: ret},
		{Name: "f", Sig: sig("IR", "RF"), Locals: typed("FI"), Body: ret},
		{Name: "f", Sig: sig("PI", "RF"), Locals: typed("FI"), Body: ret},
		{Name: "f", Sig: sig("I", "RF"), Locals: typed("FI"), Body: ret},
		{Name: "f", Sig: sig("IP", "RR"), Locals: typed("FI"), Body: ret},
		{Name: "f", Sig: sig("IP", "FR"), Locals: typed("FI"), Body: ret},
		{Name: "f", Sig: sig("IP", "R"), Locals: typed("FFI"), Body: ret},
		{Name: "f", Sig: sig("IP", "RFF"), Locals: typed("I"), Body: ret},
		{Name: "f", Sig: sig("IPR", "F"), Locals: typed("FI"), Body: ret},
		{Name: "f", Sig: sig("IP", "RF"), Locals: typed("IF"), Body: ret},
		{Name: "f", Sig: sig("IP", "RF"), Locals: typed("F"), Body: ret},
		{Name: "f", Sig: sig("IP", "RF"), Locals: typed("FII"), Body: ret},
		{Name: "f", Sig: sig("IP", "RF"), Locals: typed("FI")},
		{Name: "f", Sig: sig("IP", "RF"), Locals: typed("FI"), Body: []api.Instr{{Op: api.OpPanic}}},
		{Name: "f", Sig: sig("IP", "RF"), Locals: typed("FI"), Body: []api.Instr{{Op: api.OpRet, A: 1}}},
		{Name: "f", Sig: sig("IP", "RF"), Locals: typed("FI"), Body: []api.Instr{{Op: api.OpRet, B: 1}}},
		{Name: "f", Sig: sig("IP", "RF"), Locals: typed("FI"), Body: []api.Instr{{Op: api.OpRet}, {Op: api.OpRet}}},
	} {
		if function.Same(f, g) || function.Same(g, f) {
			t.Errorf("%v is the same as %v", g, f)
		}
	}
	if none := (api.Function{Sig: api.Signature{Args: []int{}, Results: []int{}}, Locals: []int{}, Body: []api.Instr{}}); !function.Same(none, api.Function{}) || !function.Same(api.Function{}, none) {
		t.Error("empty lists are not the same as none")
	}
}

// P7.3: a copy is the same, of functions that may not be, too.
func TestP7_3Copy(t *testing.T) {
	for _, f := range append(functions(), noFunctions()...) {
		if g := function.Copy(f); !like(f, g) || !function.Same(f, g) {
			t.Errorf("%v: %v", f, g)
		}
	}
}
