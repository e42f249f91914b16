package shape_test

import (
	"slices"
	"strings"
	"testing"

	"backstay/api"
	"backstay/shape"
)

// oddities are pieces that no text has: other letters and cases, what looks like a letter, bytes that are no rune.
func oddities() []string {
	return []string{
		"X", "A", "H", "J", "Q", "S", "E", "G", "O", "Z", "i", "r", "f", "p", " ", "\t", "\n", "\r", ",", ".", "-", "_", "|", "?", "=", "<", "0", "1", "\x00", "\x01", "\x49\x00",
		"\xff", "\xc9", "\xc3\x28", "\xe2\x82", "É", "\uff29", "\u0406", "\u0399", "\ufffd", "\u0149", "\U00010049", "\uff1e", "›", "→", "->", "nil", "IR F",
	}
}

// P6.2: texts, written out.
func TestP6_2WrittenOut(t *testing.T) {
	for _, c := range []struct {
		s    api.Shape
		text string
	}{
		{api.Shape{1}, "I"},
		{api.Shape{2}, "R"},
		{api.Shape{3}, "F"},
		{api.Shape{1, 2, 3}, "IRF"},
		{api.Shape{3, 2, 1}, "FRI"},
		{api.Shape{1, 1, 1, 1, 2}, "IIIIR"},
		{api.Shape{1, 2, 3, 1, 2, 3, 1, 2, 3, 1, 2, 3, 1, 2, 3, 3}, "IRFIRFIRFIRFIRFF"},
	} {
		if got := shape.Show(c.s); got != c.text {
			t.Errorf("Show of %v: %q; want %q", c.s, got, c.text)
		}
		if got, e := shape.Read(c.text); !slices.Equal(got, c.s) || e != api.OK {
			t.Errorf("Read of %q: %v, error %d; want %v", c.text, got, e, c.s)
		}
	}
}

// P6.2: a shape's text is its letters; what may not be has none.
func TestP6_2Show(t *testing.T) {
	for _, s := range shapes() {
		if got := shape.Show(s); got != letters(s) {
			t.Errorf("%v: %q; want %q", s, got, letters(s))
		}
	}
	for _, s := range noShapes() {
		if got := shape.Show(s); got != "" {
			t.Errorf("%v: %q", s, got)
		}
	}
}

// P6.2: a shape is read from its letters.
func TestP6_2Read(t *testing.T) {
	for _, s := range shapes() {
		if got, e := shape.Read(letters(s)); !slices.Equal(got, s) || e != api.OK {
			t.Errorf("%q: %v, error %d; want %v", letters(s), got, e, s)
		}
	}
}

// P6.2: texts that are no shape's: nothing, a P, too many letters, and what is no letter, wherever that is.
func TestP6_2ReadOfWrong(t *testing.T) {
	wrong := []string{"", ">", "I>", ">I", "I>R", "P", "IP", "PI", "IPR", strings.Repeat("I", 15) + "P"}
	for _, n := range []int{17, 18, 32, 64, 65, 1024, 1025, 100000} {
		wrong = append(wrong, strings.Repeat("IRF", n)[:n])
	}
	for _, x := range oddities() {
		wrong = append(wrong, x, x+"I", "I"+x, "I"+x+"R", "RRRRRRRRRRRRRRR"+x)
	}
	for _, text := range wrong {
		if got, e := shape.Read(text); len(got) != 0 || e != api.ErrShape {
			t.Errorf("%q: %v, error %d; want ErrShape", text, got, e)
		}
	}
}

// P6.2: of all texts of one byte and of two, those of held types' letters are shapes'.
func TestP6_2ReadOfAny(t *testing.T) {
	for a := range 256 {
		for b := -1; b < 256; b++ {
			text := []byte{byte(a), byte(b)}
			if b < 0 {
				text = text[:1]
			}
			may := strings.Trim(string(text), "IRF") == ""
			s, e := shape.Read(string(text))
			if may && (letters(s) != string(text) || e != api.OK) || !may && (len(s) != 0 || e != api.ErrShape) {
				t.Errorf("%q: %v, error %d", text, s, e)
			}
		}
	}
}

// P6.3: signatures' texts, written out.
func TestP6_3TextsWrittenOut(t *testing.T) {
	for _, c := range []struct {
		g    api.Signature
		text string
	}{
		{api.Signature{}, ">"},
		{api.Signature{Args: []int{1}}, "I>"},
		{api.Signature{Results: []int{1}}, ">I"},
		{api.Signature{Args: []int{4}}, "P>"},
		{api.Signature{Args: []int{1, 4}, Results: []int{2}}, "IP>R"},
		{api.Signature{Args: []int{4, 1, 1}, Results: []int{1, 2}}, "PII>IR"},
		{api.Signature{Args: []int{1, 2, 3, 4}, Results: []int{3, 2, 1}}, "IRFP>FRI"},
	} {
		if got := shape.ShowSignature(c.g); got != c.text {
			t.Errorf("of %v: %q; want %q", c.g, got, c.text)
		}
		if got, e := shape.ReadSignature(c.text); !like(got, c.g) || e != api.OK {
			t.Errorf("of %q: %v, error %d; want %v", c.text, got, e, c.g)
		}
	}
}

// P6.3: a signature's text; what may not be has none.
func TestP6_3ShowSignature(t *testing.T) {
	for _, g := range signatures() {
		want := letters(g.Args) + ">" + letters(g.Results)
		if got := shape.ShowSignature(g); got != want {
			t.Errorf("%v: %q; want %q", g, got, want)
		}
	}
	for _, g := range noSignatures() {
		if got := shape.ShowSignature(g); got != "" {
			t.Errorf("%v: %q", g, got)
		}
	}
}

// P6.3: a signature is read from its text.
func TestP6_3ReadSignature(t *testing.T) {
	for _, g := range signatures() {
		text := letters(g.Args) + ">" + letters(g.Results)
		if got, e := shape.ReadSignature(text); !like(got, g) || e != api.OK {
			t.Errorf("%q: %v, error %d; want %v", text, got, e, g)
		}
	}
}

// P6.3: texts that are no signature's: without an arrow, with two, a P behind it, too many letters, and what is no letter, wherever that is.
func TestP6_3ReadSignatureOfWrong(t *testing.T) {
	wrong := []string{
		"", "I", "IP", "IRFP", "nil",
		">>", ">>>", "I>>", ">I>", ">>I", "I>>R", "I>R>", "I>R>F", "IR>>",
		">P", "I>P", "P>P", ">IP", ">PI", "I>IP", "P>RPR",
		" >", "> ", " I>", "I >", "I> ", "I> R", "I>R ", "I>R\n",
	}
	for _, n := range []int{65, 66, 128, 1024, 1025, 1026, 100000} {
		for _, at := range []int{0, 1, n / 2, n - 1, n} {
			text := strings.Repeat("IRF", n)[:n]
			wrong = append(wrong, text[:at]+">"+text[at:])
		}
	}
	for _, x := range oddities() {
		wrong = append(wrong, x, x+">", ">"+x, "I"+x+">R", x+"I>R", "I>"+x+"R", "I>R"+x, "I"+x+"R")
	}
	for _, text := range wrong {
		if got, e := shape.ReadSignature(text); !nothing(got) || e != api.ErrSignature {
			t.Errorf("%q: %v, error %d; want ErrSignature", text, got, e)
		}
	}
}

// P6.3: of all texts of up to five of the letters, the arrow, and one letter more, those of one arrow with no P behind it are signatures'.
func TestP6_3ReadSignatureOfAny(t *testing.T) {
	texts := []string{""}
	may := 0
	for n := 0; n < len(texts); n++ {
		text := texts[n]
		if len(text) < 5 {
			for _, c := range "IRFP>X" {
				texts = append(texts, text+string(c))
			}
		}
		args, results, ok := strings.Cut(text, ">")
		ok = ok && strings.Trim(args, "IRFP") == "" && strings.Trim(results, "IRF") == ""
		g, e := shape.ReadSignature(text)
		if ok {
			may++
		}
		if ok && (letters(g.Args) != args || letters(g.Results) != results || e != api.OK) || !ok && (!nothing(g) || e != api.ErrSignature) {
			t.Errorf("%q: %v, error %d", text, g, e)
		}
	}
	// With k letters, of a arguments and b results: 4^a 3^b, summed up.
	if want := 1 + 7 + 37 + 175 + 781; may != want {
		t.Errorf("%d may be; want %d", may, want)
	}
}

// P6.2, P6.3: all of MaxSlots and of MaxCells may stand in a text, and not one more.
func TestP6_3TextsOfMost(t *testing.T) {
	for n := 60; n < 70; n++ {
		for args := range n + 1 {
			text := strings.Repeat("P", args) + ">" + strings.Repeat("F", n-args)
			g, e := shape.ReadSignature(text)
			if n <= 64 && (len(g.Args) != args || len(g.Results) != n-args || e != api.OK || shape.ShowSignature(g) != text) {
				t.Errorf("%q: %v, error %d", text, g, e)
			}
			if n > 64 && (!nothing(g) || e != api.ErrSignature) {
				t.Errorf("%q: %v, error %d; want ErrSignature", text, g, e)
			}
		}
	}
	for n := range 20 {
		text := strings.Repeat("F", n)
		s, e := shape.Read(text)
		if n >= 1 && n <= 16 && (len(s) != n || e != api.OK || shape.Show(s) != text) {
			t.Errorf("%q: %v, error %d", text, s, e)
		}
		if (n < 1 || n > 16) && (len(s) != 0 || e != api.ErrShape) {
			t.Errorf("%q: %v, error %d; want ErrShape", text, s, e)
		}
	}
}

// The chapter's examples.
func TestP6_3ExampleShowSignature(t *testing.T) {
	if got := shape.ShowSignature(api.Signature{Args: []int{1, 4}, Results: []int{2}}); got != "IP>R" {
		t.Errorf("%q", got)
	}
	if got := shape.ShowSignature(api.Signature{}); got != ">" {
		t.Errorf("%q", got)
	}
}
