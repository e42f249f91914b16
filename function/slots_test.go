package function_test

import (
	"math"
	"slices"
	"testing"

	"backstay/api"
	"backstay/function"
)

// wrongNumbers are numbers of slots ahead of the first of so many, and behind the last.
func wrongNumbers(n int) []int {
	return []int{math.MinInt, -1 << 32, -n - 1, -n, -2, -1, n, n + 1, 64, 65, 1 << 32, math.MaxInt}
}

// P7.2: arguments, results, locals, in that order; nothing of what may not be.
func TestP7_2Slots(t *testing.T) {
	for _, f := range functions() {
		if got := function.Slots(f); !slices.Equal(got, typesOf(f)) {
			t.Errorf("%v: %v", f, got)
		}
	}
	for _, f := range noFunctions() {
		if got := function.Slots(f); len(got) != 0 {
			t.Errorf("%v: %v; want nothing", f, got)
		}
	}
}

// P7.2: each slot's kind and type, the first and the last of each kind among them; none ahead of the first, or behind the last.
func TestP7_2Slot(t *testing.T) {
	for _, f := range functions() {
		all := slotsOf(f)
		for i, want := range all {
			if what, x, e := function.Slot(f, i); what != want.what || x != want.t || e != api.OK {
				t.Errorf("slot %d of %v: %d, %d, error %d; want %v", i, f, what, x, e, want)
			}
		}
		for _, i := range wrongNumbers(len(all)) {
			if what, x, e := function.Slot(f, i); what != 0 || x != 0 || e != api.ErrSlot {
				t.Errorf("slot %d of %v: %d, %d, error %d; want ErrSlot", i, f, what, x, e)
			}
		}
	}
}

// P7.2: slots' kinds, written out.
func TestP7_2SlotWrittenOut(t *testing.T) {
	f := api.Function{Name: "f", Sig: sig("PIR", "FI"), Locals: typed("RPFI"), Body: bodies()[0].l}
	for i, want := range []slot{
		{1, 4}, {1, 1}, {1, 2},
		{2, 3}, {2, 1},
		{3, 2}, {3, 4}, {3, 3}, {3, 1},
	} {
		if what, x, e := function.Slot(f, i); what != want.what || x != want.t || e != api.OK {
			t.Errorf("slot %d: %d, %d, error %d; want %v", i, what, x, e, want)
		}
	}
}

// P7.2: what may not be a function has no slot, though a type that may be stands there.
func TestP7_2SlotOfNoFunction(t *testing.T) {
	for _, f := range noFunctions() {
		n := len(typesOf(f))
		for _, i := range append(wrongNumbers(n), 0, 1, n/2, n-1) {
			if what, x, e := function.Slot(f, i); what != 0 || x != 0 || e != api.ErrSlot {
				t.Errorf("slot %d of %v: %d, %d, error %d; want ErrSlot", i, f, what, x, e)
			}
		}
	}
}

// P7.2: the numbers of all slots of type P, rising; nothing of what may not be.
func TestP7_2Pointers(t *testing.T) {
	for _, f := range functions() {
		var want []int
		for i, x := range typesOf(f) {
			if x == api.TypeP {
				want = append(want, i)
			}
		}
		if got := function.Pointers(f); !slices.Equal(got, want) {
			t.Errorf("%v: %v; want %v", f, got, want)
		}
	}
	for _, f := range noFunctions() {
		if got := function.Pointers(f); len(got) != 0 {
			t.Errorf("%v: %v; want nothing", f, got)
		}
	}
}

// P7.2: pointers among arguments and locals, written out.
func TestP7_2PointersWrittenOut(t *testing.T) {
	for _, c := range []struct {
		args, results, locals string
		want                  []int
	}{
		{"", "", "", nil},
		{"IRF", "IRF", "IRF", nil},
		{"P", "", "", []int{0}},
		{"", "", "P", []int{0}},
		{"", "R", "P", []int{1}},
		{"P", "IRF", "P", []int{0, 4}},
		{"PPP", "", "", []int{0, 1, 2}},
		{"IPIP", "F", "IPPI", []int{1, 3, 6, 7}},
	} {
		f := api.Function{Name: "f", Sig: sig(c.args, c.results), Locals: typed(c.locals), Body: bodies()[0].l}
		if got := function.Pointers(f); !slices.Equal(got, c.want) {
			t.Errorf("%s>%s, %s: %v; want %v", c.args, c.results, c.locals, got, c.want)
		}
	}
}

// P7.3: arguments as they were handed, and zeros behind them.
func TestP7_3Begin(t *testing.T) {
	for i, f := range functions() {
		args := valued(f.Sig.Args, i)
		want := append(slices.Clone(args), zeros(slices.Concat(f.Sig.Results, f.Locals))...)
		if got, e := function.Begin(f, args...); !slices.Equal(got, want) || e != api.OK {
			t.Errorf("%v: %v, error %d; want %v", f, got, e, want)
		}
		none := zeros(f.Sig.Args)
		if got, e := function.Begin(f, none...); !slices.Equal(got, zeros(typesOf(f))) || e != api.OK {
			t.Errorf("%v of zeros: %v, error %d", f, got, e)
		}
	}
}

// P7.3: the least and the greatest values of each type are arguments.
func TestP7_3BeginOfBounds(t *testing.T) {
	f := api.Function{Name: "f", Sig: sig("IIRRFFPP", ""), Body: bodies()[0].l}
	args := []api.Value{{Type: 1, N: math.MinInt64}, {Type: 1, N: math.MaxInt64}, {Type: 2}, {Type: 2, N: math.MaxInt64}, {Type: 3}, {Type: 3, N: math.MaxInt64}, {Type: 4}, {Type: 4, N: math.MaxInt64}}
	if got, e := function.Begin(f, args...); !slices.Equal(got, args) || e != api.OK {
		t.Errorf("%v, error %d", got, e)
	}
}

// misfits are values that do not fit types: fewer, more, of another type, or such as may not be.
func misfits(l []int) [][]api.Value {
	fit := valued(l, 5)
	all := [][]api.Value{
		append(slices.Clone(fit), api.Value{Type: api.TypeI}),
		append(slices.Clone(fit), fit...),
		append(slices.Clone(fit), api.Value{}),
		append([]api.Value{{Type: api.TypeI}}, fit...),
	}
	if len(l) == 0 {
		return [][]api.Value{all[0], all[2]}
	}
	all = append(all, nil, fit[:len(fit)-1], fit[1:])
	if len(l) == 1 {
		all = all[:len(all)-1]
	}
	for _, at := range []int{0, len(l) / 2, len(l) - 1} {
		for _, x := range []api.Value{{}, {Type: 1}, {Type: 2}, {Type: 3}, {Type: 4}, {Type: 5}, {Type: -1}, {Type: 2, N: -1}, {Type: 3, N: math.MinInt64}, {Type: 4, N: -1}, {Type: 256 + l[at], N: 1}} {
			if x.Type != l[at] || x.N < 0 {
				v := slices.Clone(fit)
				v[at] = x
				all = append(all, v)
			}
		}
	}
	return all
}

// P7.3: arguments that do not fit are ErrArgs.
func TestP7_3BeginOfMisfits(t *testing.T) {
	for _, f := range functions() {
		for _, args := range misfits(f.Sig.Args) {
			if got, e := function.Begin(f, args...); len(got) != 0 || e != api.ErrArgs {
				t.Errorf("%v of %v: %v, error %d; want ErrArgs", f, args, got, e)
			}
		}
	}
}

// P7.3: values for all slots are too many arguments, unless there are no other slots.
func TestP7_3BeginOfAllSlots(t *testing.T) {
	for _, f := range functions() {
		want := api.ErrArgs
		if len(typesOf(f)) == len(f.Sig.Args) {
			want = api.OK
		}
		if got, e := function.Begin(f, valued(typesOf(f), 1)...); e != want || e != api.OK && len(got) != 0 {
			t.Errorf("%v: %v, error %d; want %d", f, got, e, want)
		}
	}
}

// P7.3: what may not be a function begins with nothing, and has no results, whether what is handed would fit or not.
func TestP7_3OfNoFunction(t *testing.T) {
	for i, f := range noFunctions() {
		for _, args := range [][]api.Value{nil, valued(f.Sig.Args, i), {{Type: 9}}} {
			if got, e := function.Begin(f, args...); len(got) != 0 || e != api.ErrFunction {
				t.Errorf("%v of %v: %v, error %d; want ErrFunction", f, args, got, e)
			}
		}
		for _, l := range [][]api.Value{nil, valued(typesOf(f), i), {{Type: 9}}} {
			if got, e := function.Results(f, l); len(got) != 0 || e != api.ErrFunction {
				t.Errorf("%v of %v: %v, error %d; want ErrFunction", f, l, got, e)
			}
		}
	}
}

// P7.3: the values of the slots that are results.
func TestP7_3Results(t *testing.T) {
	for i, f := range functions() {
		l := valued(typesOf(f), i)
		var want []api.Value
		for i, s := range slotsOf(f) {
			if s.what == api.SlotResult {
				want = append(want, l[i])
			}
		}
		if got, e := function.Results(f, l); !slices.Equal(got, want) || e != api.OK {
			t.Errorf("%v of %v: %v, error %d; want %v", f, l, got, e, want)
		}
		if got, e := function.Results(f, zeros(typesOf(f))); !slices.Equal(got, zeros(f.Sig.Results)) || e != api.OK {
			t.Errorf("%v of zeros: %v, error %d", f, got, e)
		}
	}
}

// P7.3: slots that do not fit are ErrSlot, wherever they do not.
func TestP7_3ResultsOfMisfits(t *testing.T) {
	for _, f := range functions() {
		for _, l := range misfits(typesOf(f)) {
			if got, e := function.Results(f, l); len(got) != 0 || e != api.ErrSlot {
				t.Errorf("%v of %v: %v, error %d; want ErrSlot", f, l, got, e)
			}
		}
	}
}

// P7.3: results, written out.
func TestP7_3ResultsWrittenOut(t *testing.T) {
	f := api.Function{Name: "f", Sig: sig("IP", "RI"), Locals: typed("FI"), Body: bodies()[0].l}
	l := []api.Value{{Type: 1, N: 5}, {Type: 4, N: 9}, {Type: 2, N: 3}, {Type: 1, N: -8}, {Type: 3, N: 2}, {Type: 1, N: 6}}
	if got, e := function.Results(f, l); !slices.Equal(got, []api.Value{{Type: 2, N: 3}, {Type: 1, N: -8}}) || e != api.OK {
		t.Errorf("%v, error %d", got, e)
	}
	if got, e := function.Results(f, l[2:4]); len(got) != 0 || e != api.ErrSlot {
		t.Errorf("of results alone: %v, error %d; want ErrSlot", got, e)
	}
	if got, e := function.Results(f, l[:4]); len(got) != 0 || e != api.ErrSlot {
		t.Errorf("of no locals: %v, error %d; want ErrSlot", got, e)
	}
}

// The chapter's examples.
func TestP7_2ExampleSlots(t *testing.T) {
	f := example()
	if l := function.Slots(f); !slices.Equal(l, []int{api.TypeI, api.TypeP, api.TypeR, api.TypeF}) {
		t.Error(l)
	}
	if l := function.Pointers(f); !slices.Equal(l, []int{1}) {
		t.Error(l)
	}
	if what, x, e := function.Slot(f, 2); what != api.SlotResult || x != api.TypeR || e != api.OK {
		t.Errorf("slot 2: %d, %d, error %d", what, x, e)
	}
	if what, x, e := function.Slot(f, 4); what != 0 || x != 0 || e != api.ErrSlot {
		t.Errorf("slot 4: %d, %d, error %d", what, x, e)
	}
}

func TestP7_3ExampleBegin(t *testing.T) {
	five, nine := api.Value{Type: api.TypeI, N: 5}, api.Value{Type: api.TypeP, N: 9}
	want := []api.Value{five, nine, {Type: api.TypeR}, {Type: api.TypeF}}
	if l, e := function.Begin(example(), five, nine); !slices.Equal(l, want) || e != api.OK {
		t.Errorf("%v, error %d", l, e)
	}
	if l, e := function.Begin(example(), five); len(l) != 0 || e != api.ErrArgs {
		t.Errorf("%v, error %d; want ErrArgs", l, e)
	}
}
