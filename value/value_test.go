package value_test

import (
	"math"
	"slices"
	"testing"

	"backstay/api"
	"backstay/value"
)

// numbers are the ends of what a value's number may be, with those beside them.
func numbers() []int64 {
	return []int64{math.MinInt64, math.MinInt64 + 1, math.MinInt32, -10, -9, -2, -1, 0, 1, 2, 9, 10, 11, 99, 100, math.MaxUint32, math.MaxInt64 - 1, math.MaxInt64}
}

// values are all those of a type and of the numbers, whether they may be or not.
func values(types ...int) []api.Value {
	var l []api.Value
	for _, t := range types {
		for _, n := range numbers() {
			l = append(l, api.Value{Type: t, N: n})
		}
	}
	return l
}

// mayBe is Check by the chapter's words.
func mayBe(v api.Value) bool {
	return known()[v.Type] != "" && (v.Type == api.TypeI || v.N >= 0)
}

// P2.2: numbers may all be; of the other types none below 0; of what is no type none at all.
func TestP2_2Check(t *testing.T) {
	for _, v := range values(append(noTypes(), 1, 2, 3, 4)...) {
		want := api.OK
		if !mayBe(v) {
			want = api.ErrValue
		}
		if e := value.Check(v); e != want {
			t.Errorf("%v: error %d, want %d", v, e, want)
		}
	}
	if e := value.Check(api.Value{}); e != api.ErrValue {
		t.Errorf("of no value: error %d, want ErrValue", e)
	}
}

// P2.2: nil is the 0 of each type but I.
func TestP2_2Nil(t *testing.T) {
	for _, v := range values(append(noTypes(), 1, 2, 3, 4)...) {
		want := v == api.Value{Type: 2} || v == api.Value{Type: 3} || v == api.Value{Type: 4}
		if got := value.Nil(v); got != want {
			t.Errorf("%v: %t, want %t", v, got, want)
		}
	}
}

// P2.2: a type's zero has it, and 0; what is no type has none.
func TestP2_2Zero(t *testing.T) {
	for x := range known() {
		if got, e := value.Zero(x); got != (api.Value{Type: x}) || e != api.OK {
			t.Errorf("of %d: %v, error %d", x, got, e)
		}
	}
	for _, x := range noTypes() {
		if got, e := value.Zero(x); got != (api.Value{}) || e != api.ErrType {
			t.Errorf("of %d: %v, error %d; want ErrType", x, got, e)
		}
	}
}

// P2.2: types' zeros stand as they do; MaxTypes bounds texts alone.
func TestP2_2Zeros(t *testing.T) {
	for _, l := range [][]int{nil, {}, {1}, {4, 3, 2, 1}, {2, 2}, many(api.MaxTypes), many(api.MaxTypes + 1)} {
		var want []api.Value
		for _, x := range l {
			want = append(want, api.Value{Type: x})
		}
		if got, e := value.Zeros(l); !slices.Equal(got, want) || e != api.OK {
			t.Errorf("of %v: %v, error %d", l, got, e)
		}
	}
	for _, x := range noTypes() {
		for _, l := range [][]int{{x}, {x, 1}, {1, x}, {1, x, 2}, append(many(api.MaxTypes), x)} {
			if got, e := value.Zeros(l); len(got) != 0 || e != api.ErrType {
				t.Errorf("of %v: %v, error %d; want ErrType", l, got, e)
			}
		}
	}
}

// P2.2: each number is a value's.
func TestP2_2Int(t *testing.T) {
	for _, n := range numbers() {
		if got := value.Int(n); got != (api.Value{Type: 1, N: n}) {
			t.Errorf("of %d: %v", n, got)
		}
	}
}

// P2.2: types are told as they stand, whether the values may be or not.
func TestP2_2Of(t *testing.T) {
	for _, l := range [][]api.Value{nil, {}} {
		if got := value.Of(l); len(got) != 0 {
			t.Errorf("of none: %v", got)
		}
	}
	l := []api.Value{{Type: 4, N: 7}, {Type: 1, N: -1}, {}, {Type: 3, N: -9}, {Type: -5}, {Type: math.MaxInt, N: 1}, {Type: 2}}
	if got := value.Of(l); !slices.Equal(got, []int{4, 1, 0, 3, -5, math.MaxInt, 2}) {
		t.Errorf("%v", got)
	}
	zeros, _ := value.Zeros(many(api.MaxTypes + 1))
	if got := value.Of(zeros); !slices.Equal(got, many(api.MaxTypes+1)) {
		t.Errorf("of %d values: %d types", len(zeros), len(got))
	}
}

// P2.2: values fit, if all may be, and have just those types, in that order.
func TestP2_2Fits(t *testing.T) {
	i, r, f, p := value.Int(math.MinInt64), api.Value{Type: 2, N: 5}, api.Value{Type: 3}, api.Value{Type: 4, N: math.MaxInt64}
	for n, c := range []struct {
		l    []int
		v    []api.Value
		want bool
	}{
		{nil, nil, true},
		{[]int{}, nil, true},
		{nil, []api.Value{}, true},
		{[]int{1}, []api.Value{i}, true},
		{[]int{1, 2, 3, 4}, []api.Value{i, r, f, p}, true},
		{[]int{4, 4, 1}, []api.Value{p, p, i}, true},
		{[]int{1}, nil, false},
		{nil, []api.Value{i}, false},
		{[]int{1, 1}, []api.Value{i}, false},
		{[]int{1}, []api.Value{i, i}, false},
		{[]int{2}, []api.Value{i}, false},
		{[]int{1, 2}, []api.Value{r, i}, false},
		{[]int{1, 2, 3}, []api.Value{i, r, p}, false},
		{[]int{2}, []api.Value{{Type: 2, N: -1}}, false},
		{[]int{1, 4}, []api.Value{i, {Type: 4, N: math.MinInt64}}, false},
		{[]int{3, 1}, []api.Value{{Type: 3, N: -1}, i}, false},
		{[]int{0}, []api.Value{{}}, false},
		{[]int{5}, []api.Value{{Type: 5}}, false},
		{[]int{-1, 1}, []api.Value{{Type: -1, N: 2}, i}, false},
	} {
		if got := value.Fits(c.l, c.v); got != c.want {
			t.Errorf("case %d: %t", n, got)
		}
	}
	long := many(api.MaxTypes + 1)
	zeros, _ := value.Zeros(long)
	if !value.Fits(long, zeros) {
		t.Error("zeros of many types do not fit them")
	}
}

// P2.4: what is handed in stays.
func TestP2_4HandedIn(t *testing.T) {
	l, v := []int{1, 2, 3, 4}, []api.Value{{Type: 1, N: -1}, {Type: 2, N: 2}, {Type: 3, N: 3}, {Type: 4, N: 4}}
	wasL, wasV := slices.Clone(l), slices.Clone(v)
	value.Zeros(l[:2])
	value.Of(v[:2])
	value.Fits(l, v)
	value.Fits(l[:2], v[:2])
	if !slices.Equal(l, wasL) || !slices.Equal(v, wasV) {
		t.Errorf("%v, %v", l, v)
	}
}

// P2.4: what is answered is new memory: none of it changes with another answer, or with what was handed in.
func TestP2_4Answered(t *testing.T) {
	l := []int{1, 2, 4}
	zeros, _ := value.Zeros(l)
	other, _ := value.Zeros(l)
	types, again := value.Of(zeros), value.Of(zeros)
	clear(other[:cap(other)])
	clear(again[:cap(again)])
	if !slices.Equal(zeros, []api.Value{{Type: 1}, {Type: 2}, {Type: 4}}) {
		t.Errorf("zeros: %v", zeros)
	}
	clear(l)
	clear(zeros)
	if !slices.Equal(types, []int{1, 2, 4}) {
		t.Errorf("types: %v", types)
	}
}
