package value_test

import (
	"math/rand/v2"
	"slices"
	"testing"

	"backstay/api"
	"backstay/value"
)

// someValues are values that may be: the bounds' of each type, small ones, and some by rule.
func someValues() []api.Value {
	l := slices.DeleteFunc(values(1, 2, 3, 4), func(v api.Value) bool { return !mayBe(v) })
	source := rand.New(rand.NewPCG(2, 5))
	for i := range int64(40) {
		n := int64(source.Uint64() >> (1 + i))
		l = append(l, value.Int(i-20), value.Int(-n), api.Value{Type: 2, N: i}, api.Value{Type: 2, N: n}, api.Value{Type: 3, N: i}, api.Value{Type: 3, N: n}, api.Value{Type: 4, N: i})
	}
	return l
}

// P2.5: a value's text is read as it was, but for a pointer's that is not nil.
func TestP2_5RoundTrip(t *testing.T) {
	for _, v := range someValues() {
		got, e := value.Read(v.Type, value.Show(v))
		if v.Type == api.TypeP && v.N != 0 {
			if got != (api.Value{}) || e != api.ErrValue {
				t.Errorf("%v: %v, error %d; want ErrValue", v, got, e)
			}
		} else if got != v || e != api.OK {
			t.Errorf("%v: %v, error %d", v, got, e)
		}
	}
}

// P2.5: values of one type that is not P have the same text just if they are the same.
func TestP2_5OneTextEach(t *testing.T) {
	l := someValues()
	for _, v := range l {
		for _, w := range l {
			if v.Type == w.Type && v.Type != api.TypeP && (value.Show(v) == value.Show(w)) != (v == w) {
				t.Errorf("%v has %q, %v has %q", v, value.Show(v), w, value.Show(w))
			}
		}
	}
}

// P2.5: of all short texts of the signs, digits and letters that there are, each that is read is the text of what it is read as.
func TestP2_5OneValueEach(t *testing.T) {
	short := []string{""}
	for from := 0; len(short[from]) < 4; from++ {
		for _, c := range "-+#@&0129nil" {
			short = append(short, short[from]+string(c))
		}
	}
	for x := range known() {
		for _, s := range short {
			v, e := value.Read(x, s)
			if e == api.OK && (value.Show(v) != s || v.Type != x) {
				t.Fatalf("%q is read as %v, whose text is %q", s, v, value.Show(v))
			}
			if e != api.OK && (v != api.Value{} || e != api.ErrValue) {
				t.Fatalf("%q: %v, error %d", s, v, e)
			}
		}
	}
}
