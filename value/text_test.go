package value_test

import (
	"math"
	"strings"
	"testing"

	"backstay/api"
	"backstay/value"
)

// textCase is a value's text.
type textCase struct {
	v    api.Value
	text string
}

// texts are values of each type, from the least to the greatest, but for pointers that are not nil.
func texts() []textCase {
	return []textCase{
		{api.Value{Type: 1}, "0"},
		{api.Value{Type: 1, N: 7}, "7"},
		{api.Value{Type: 1, N: 10}, "10"},
		{api.Value{Type: 1, N: -1}, "-1"},
		{api.Value{Type: 1, N: -5}, "-5"},
		{api.Value{Type: 1, N: -120}, "-120"},
		{api.Value{Type: 1, N: math.MaxInt64}, "9223372036854775807"},
		{api.Value{Type: 1, N: math.MinInt64}, "-9223372036854775808"},
		{api.Value{Type: 2}, "nil"},
		{api.Value{Type: 2, N: 1}, "#1"},
		{api.Value{Type: 2, N: 7}, "#7"},
		{api.Value{Type: 2, N: 100}, "#100"},
		{api.Value{Type: 2, N: math.MaxInt64}, "#9223372036854775807"},
		{api.Value{Type: 3}, "nil"},
		{api.Value{Type: 3, N: 1}, "@0"},
		{api.Value{Type: 3, N: 2}, "@1"},
		{api.Value{Type: 3, N: 3}, "@2"},
		{api.Value{Type: 3, N: 64}, "@63"},
		{api.Value{Type: 3, N: 101}, "@100"},
		{api.Value{Type: 3, N: math.MaxInt64}, "@9223372036854775806"},
		{api.Value{Type: 4}, "nil"},
	}
}

// P2.3: a value's text is by its type, and nil's is the same of all.
func TestP2_3Show(t *testing.T) {
	for _, c := range texts() {
		if got := value.Show(c.v); got != c.text {
			t.Errorf("%v: %q, want %q", c.v, got, c.text)
		}
	}
}

// P2.3: an address is never shown.
func TestP2_3ShowOfPointers(t *testing.T) {
	for _, n := range []int64{1, 2, 99, 1 << 40, math.MaxInt64} {
		if got := value.Show(api.Value{Type: 4, N: n}); got != "&" {
			t.Errorf("of %d: %q", n, got)
		}
	}
}

// P2.3: a value that may not be has no text.
func TestP2_3ShowOfWhatMayNotBe(t *testing.T) {
	for _, v := range values(append(noTypes(), 1, 2, 3, 4)...) {
		if got := value.Show(v); (got != "") != mayBe(v) {
			t.Errorf("%v: %q", v, got)
		}
	}
	if got := value.Show(api.Value{}); got != "" {
		t.Errorf("of no value: %q", got)
	}
}

// P2.3: texts are read, each as a value of the type that was asked for.
func TestP2_3Read(t *testing.T) {
	for _, c := range texts() {
		if got, e := value.Read(c.v.Type, c.text); got != c.v || e != api.OK {
			t.Errorf("%q of %d: %v, error %d", c.text, c.v.Type, got, e)
		}
	}
}

// P2.3: ErrType, if there is no such type, whatever the text is.
func TestP2_3ReadOfNoType(t *testing.T) {
	for _, x := range noTypes() {
		for _, s := range []string{"0", "7", "-7", "nil", "#1", "@1", "&", "", "x"} {
			if got, e := value.Read(x, s); got != (api.Value{}) || e != api.ErrType {
				t.Errorf("%q of %d: %v, error %d; want ErrType", s, x, got, e)
			}
		}
	}
}

// P2.3: the text of a value of another type is not read.
func TestP2_3ReadOfAnotherType(t *testing.T) {
	for _, c := range texts() {
		for x := range known() {
			if x == c.v.Type || c.text == "nil" && x != api.TypeI {
				continue
			}
			if got, e := value.Read(x, c.text); got != (api.Value{}) || e != api.ErrValue {
				t.Errorf("%q of %d: %v, error %d; want ErrValue", c.text, x, got, e)
			}
		}
	}
}

// P2.3: what is no value's text is none of any type: signs, zeros in front, what is too great, what is cut short or goes on, a pointer's.
func TestP2_3ReadOfNoText(t *testing.T) {
	for _, s := range []string{
		"", " ", "-", "+", "#", "@", "&", "&0", "&1", "&99", "-&", "&&",
		"-0", "+0", "+7", "--7", "-+7", "00", "007", "-07", "01", "0x7", "0b1", "0o7", "1_000", "1e3", "1.0", "7.", "7,",
		" 7", "7 ", "7\n", "\t7", "- 7", "7-", "7#", "7@", "7nil", "7\x00", "\x007", "\xff", "7\xff", "\uff17", "\u0667", "\u22127",
		"9223372036854775808", "-9223372036854775809", "9223372036854775810", "10000000000000000000", "18446744073709551615", "18446744073709551616", "18446744073709551623",
		"-18446744073709551616", "340282366920938463463374607431768211456",
		"#0", "#-1", "#-0", "#+1", "#01", "#00", "# 1", "#1 ", " #1", "##1", "#1#", "#@1", "#nil", "#x", "#1x", "1#", "-#1", "#9223372036854775808", "#9223372036854775809", "#18446744073709551617",
		"@-1", "@-0", "@-2", "@+0", "@+1", "@00", "@01", "@ 0", "@0 ", " @0", "@@0", "@0@", "@#1", "@nil", "@x", "@0x", "0@", "-@0", "@9223372036854775807", "@9223372036854775808", "@18446744073709551615", "@18446744073709551616",
		"@-9223372036854775808", "#-9223372036854775808",
		"n", "ni", "il", "nill", "nil ", " nil", "Nil", "NIL", "nil0", "nilnil", "-nil", "null", "none", "I", "I7", "0 0", "x", strings.Repeat("0", 5000), strings.Repeat("9", 5000), "1" + strings.Repeat("0", 5000),
	} {
		for x := range known() {
			if got, e := value.Read(x, s); got != (api.Value{}) || e != api.ErrValue {
				t.Errorf("%q of %d: %v, error %d; want ErrValue", s, x, got, e)
			}
		}
	}
}

// The chapter's examples.
func TestExamples(t *testing.T) {
	if got := value.Text([]int{1, 2, 4}); got != "IRP" {
		t.Errorf("Text of 1, 2, 4: %q", got)
	}
	if got, e := value.Types("IRX"); len(got) != 0 || e != api.ErrType {
		t.Errorf("Types of IRX: %v, error %d", got, e)
	}
	for _, c := range []textCase{
		{api.Value{Type: api.TypeI, N: -5}, "-5"},
		{api.Value{Type: api.TypeR}, "nil"},
		{api.Value{Type: api.TypeR, N: 7}, "#7"},
		{api.Value{Type: api.TypeF, N: 1}, "@0"},
		{api.Value{Type: api.TypeP, N: 99}, "&"},
	} {
		if got := value.Show(c.v); got != c.text {
			t.Errorf("Show of %v: %q, want %q", c.v, got, c.text)
		}
	}
	if got, e := value.Read(api.TypeI, "007"); got != (api.Value{}) || e != api.ErrValue {
		t.Errorf("Read of I, 007: %v, error %d", got, e)
	}
	if got, e := value.Read(api.TypeF, "@2"); got != (api.Value{Type: api.TypeF, N: 3}) || e != api.OK {
		t.Errorf("Read of F, @2: %v, error %d", got, e)
	}
}
