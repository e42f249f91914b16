package value_test

import (
	"math"
	"slices"
	"strings"
	"testing"

	"backstay/api"
	"backstay/value"
)

// known are the types, with their letters.
func known() map[int]string {
	return map[int]string{api.TypeI: "I", api.TypeR: "R", api.TypeF: "F", api.TypeP: "P"}
}

// noTypes are numbers that no type has.
func noTypes() []int {
	return []int{math.MinInt, -4, -1, 0, 5, 6, 64, 256 + api.TypeI, 1<<32 + api.TypeI, math.MaxInt}
}

// many is a list of types, of all four in turn.
func many(size int) []int {
	l := make([]int, size)
	for i := range l {
		l[i] = api.TypeI + i%4
	}
	return l
}

// P2.1: the four types are known, nothing else is.
func TestP2_1Known(t *testing.T) {
	for x := range known() {
		if !value.Known(x) {
			t.Errorf("%d is not known", x)
		}
	}
	for _, x := range noTypes() {
		if value.Known(x) {
			t.Errorf("%d is known", x)
		}
	}
}

// P2.1: each type has its letter, what is none has nothing.
func TestP2_1Letter(t *testing.T) {
	for x, letter := range known() {
		if got := value.Letter(x); got != letter {
			t.Errorf("of %d: %q, want %q", x, got, letter)
		}
	}
	for _, x := range noTypes() {
		if got := value.Letter(x); got != "" {
			t.Errorf("of %d: %q", x, got)
		}
	}
}

// P2.1: a list's text is its letters, and its text's list is it again.
func TestP2_1TextAndTypes(t *testing.T) {
	for text, l := range map[string][]int{
		"":         nil,
		"I":        {1},
		"R":        {2},
		"F":        {3},
		"P":        {4},
		"IRP":      {1, 2, 4},
		"PFRI":     {4, 3, 2, 1},
		"IIFFIRPP": {1, 1, 3, 3, 1, 2, 4, 4},
	} {
		if got := value.Text(l); got != text {
			t.Errorf("Text of %v: %q, want %q", l, got, text)
		}
		if got, e := value.Types(text); !slices.Equal(got, l) || e != api.OK {
			t.Errorf("Types of %q: %v, error %d; want %v", text, got, e, l)
		}
	}
	if got := value.Text([]int{}); got != "" {
		t.Errorf("Text of an empty list: %q", got)
	}
}

// P2.1: what is no type has no text, wherever it stands.
func TestP2_1TextOfNoTypes(t *testing.T) {
	for _, x := range noTypes() {
		for _, l := range [][]int{{x}, {x, 1}, {1, x}, {1, x, 2}} {
			if got := value.Text(l); got != "" {
				t.Errorf("Text of %v: %q", l, got)
			}
		}
	}
}

// P2.1: a text with anything but the four letters is no list's.
func TestP2_1TypesOfOtherTexts(t *testing.T) {
	for _, s := range []string{
		"X", "IRX", "XIR", "IXR", "i", "r", "f", "p", "Ii", " ", "I ", " I", "I R", "I,R", "I\n", "1", "0", "\x00", "I\x00",
		"\x01", "\xff", "I\xc9", "É", "IÉ", "\uff29", "\u0406", "I\ufffd", "\u0149", "\U00010049", ">", "?", "A", "Z", "H", "J", "Q", "S", "E", "G", "O", "nil",
	} {
		if got, e := value.Types(s); len(got) != 0 || e != api.ErrType {
			t.Errorf("Types of %q: %v, error %d; want ErrType", s, got, e)
		}
	}
	for c := range 256 {
		s := string([]byte{byte(c)})
		_, e := value.Types(s)
		if (e == api.OK) != strings.Contains("IRFP", s) {
			t.Errorf("Types of %q: error %d", s, e)
		}
	}
}

// P2.1: a list with a text has at most MaxTypes types.
func TestP2_1MaxTypes(t *testing.T) {
	for _, size := range []int{api.MaxTypes - 1, api.MaxTypes} {
		l, text := many(size), strings.Repeat("IRFP", size)[:size]
		if got := value.Text(l); got != text {
			t.Errorf("Text of %d types has %d letters", size, len(got))
		}
		if got, e := value.Types(text); !slices.Equal(got, l) || e != api.OK {
			t.Errorf("Types of %d letters: %d, error %d", size, len(got), e)
		}
	}
	for _, size := range []int{api.MaxTypes + 1, api.MaxTypes + 2, 2 * api.MaxTypes, 100000} {
		if got := value.Text(many(size)); got != "" {
			t.Errorf("Text of %d types has %d letters", size, len(got))
		}
		if got, e := value.Types(strings.Repeat("IRFP", size)[:size]); len(got) != 0 || e != api.ErrType {
			t.Errorf("Types of %d letters: %d, error %d; want ErrType", size, len(got), e)
		}
	}
}

// P2.1: of the last letters that may stand in a text one may be wrong.
func TestP2_1TypesWrongAtTheEnd(t *testing.T) {
	text := strings.Repeat("I", api.MaxTypes-1) + "X"
	if got, e := value.Types(text); len(got) != 0 || e != api.ErrType {
		t.Errorf("%d, error %d; want ErrType", len(got), e)
	}
	l := many(api.MaxTypes)
	l[api.MaxTypes-1] = 0
	if got := value.Text(l); got != "" {
		t.Errorf("%d letters", len(got))
	}
}

// P2.4: lists of types are only read, and those that are answered are new memory.
func TestP2_4Types(t *testing.T) {
	l := []int{1, 2, 4}
	if value.Text(l); !slices.Equal(l, []int{1, 2, 4}) {
		t.Errorf("what was handed in is %v", l)
	}
	one, _ := value.Types("IRP")
	two, _ := value.Types("IRP")
	clear(one[:cap(one)])
	three, _ := value.Types("IRP")
	if !slices.Equal(two, l) || !slices.Equal(three, l) {
		t.Errorf("%v, %v; want %v", two, three, l)
	}
}
