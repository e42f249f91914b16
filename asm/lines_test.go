package asm_test

import (
	"slices"
	"strings"
	"testing"

	"backstay/api"
	"backstay/asm"
)

// P9.2: words, written out.
func TestP9_2Words(t *testing.T) {
	for line, want := range map[string][]string{
		"":                      nil,
		" ":                     nil,
		"\t":                    nil,
		" \t \t":                nil,
		";":                     nil,
		" ; a b":                nil,
		";;;":                   nil,
		"a":                     {"a"},
		" a":                    {"a"},
		"a ":                    {"a"},
		"\ta\t":                 {"a"},
		"a b":                   {"a", "b"},
		"a  b":                  {"a", "b"},
		"a\tb":                  {"a", "b"},
		" \t a \t\t b \tc\t ":   {"a", "b", "c"},
		"a;b":                   {"a"},
		"a ;b":                  {"a"},
		"a b;c d":               {"a", "b"},
		"a b ; c ; d":           {"a", "b"},
		"top:;x":                {"top:"},
		"func main > ; first":   {"func", "main", ">"},
		"a a a":                 {"a", "a", "a"},
		"a:b, c.d -5 > \"x y\"": {"a:b,", "c.d", "-5", ">", "\"x", "y\""},
	} {
		if got := asm.Words(line); !slices.Equal(got, want) {
			t.Errorf("%q: %q; want %q", line, got, want)
		}
	}
}

// P9.2: of a line with line feeds within what stands ahead of the first one counts.
func TestP9_2WordsAheadOfLineFeed(t *testing.T) {
	for line, want := range map[string][]string{
		"\n":           nil,
		"\na b":        nil,
		"a\n":          {"a"},
		"a\nb":         {"a"},
		"a b\nc\nd":    {"a", "b"},
		" a\tb \n\n c": {"a", "b"},
		"a;b\nc":       {"a"},
		"a\n;b":        {"a"},
		";\na":         nil,
		"; a\nb ; c":   nil,
		"a\r\nb":       {"a\r"},
		"\r\na":        {"\r"},
	} {
		if got := asm.Words(line); !slices.Equal(got, want) {
			t.Errorf("%q: %q; want %q", line, got, want)
		}
	}
}

// P9.2: bytes that are no UTF-8, and runes that are blanks elsewhere, are parts of words as they stand.
func TestP9_2WordsOfAnyBytes(t *testing.T) {
	for line, want := range map[string][]string{
		"\xff":                          {"\xff"},
		"\xff \xfe\t\x80":               {"\xff", "\xfe", "\x80"},
		"a\xff b\xc3":                   {"a\xff", "b\xc3"},
		"\xc3 \xa9":                     {"\xc3", "\xa9"},
		"\xe2\x80\t\x83":                {"\xe2\x80", "\x83"},
		"\xc3;\xa9":                     {"\xc3"},
		"\xe2\x82\n\xac":                {"\xe2\x82"},
		"\xf0\x9f;":                     {"\xf0\x9f"},
		"\u00e9 \u20ac\t\U0001f600":     {"\u00e9", "\u20ac", "\U0001f600"},
		"a\u00a0b\u2003c\u3000d\u0085e": {"a\u00a0b\u2003c\u3000d\u0085e"},
		"\ufffd a":                      {"\ufffd", "a"},
		"\x00 \x01\v\f\r \x7f":          {"\x00", "\x01\v\f\r", "\x7f"},
		"\u013b \u010a \u0120 \u0109":   {"\u013b", "\u010a", "\u0120", "\u0109"},
		"\uff1b a \u037e":               {"\uff1b", "a", "\u037e"},
	} {
		if got := asm.Words(line); !slices.Equal(got, want) {
			t.Errorf("%q: %q; want %q", line, got, want)
		}
	}
	for c := range 256 {
		s := string([]byte{'a', byte(c), 'b'})
		if got := asm.Words(s); !slices.Equal(got, wordsOf(s)) {
			t.Errorf("%q: %q; want %q", s, got, wordsOf(s))
		}
	}
}

// pieced are all texts of at most so many of some pieces.
func pieced(most int, pieces ...string) []string {
	all, last := []string{""}, []string{""}
	for range most {
		var next []string
		for _, s := range last {
			for _, piece := range pieces {
				next = append(next, s+piece)
			}
		}
		all, last = append(all, next...), next
	}
	return all
}

// P9.2: of all short texts words and normal ones are as the chapter tells.
func TestP9_2Short(t *testing.T) {
	for _, s := range pieced(6, "a", "b:", " ", "\t", ";", "\n", "\xff") {
		if got := asm.Words(s); !slices.Equal(got, wordsOf(s)) {
			t.Fatalf("Words of %q: %q; want %q", s, got, wordsOf(s))
		}
		if got := asm.Normal(s); got != normalOf(s) {
			t.Fatalf("Normal of %q: %q; want %q", s, got, normalOf(s))
		}
	}
}

// P9.2: words may be long, and many; a line may be longer than any text.
func TestP9_2WordsOfLongLines(t *testing.T) {
	for _, n := range []int{1, 100, api.MaxText, 3 * api.MaxText} {
		long := strings.Repeat("x", n)
		if got := asm.Words(" " + long + "\t" + long + ";" + long); !slices.Equal(got, []string{long, long}) {
			t.Errorf("of %d: %d words", n, len(got))
		}
		if got := asm.Words(strings.Repeat("ab ", n)); len(got) != n || got[0] != "ab" || got[n-1] != "ab" {
			t.Errorf("%d words: %d", n, len(got))
		}
		if got := asm.Words(strings.Repeat(" \t", n)); len(got) != 0 {
			t.Errorf("%d blanks: %q", n, got)
		}
	}
}

// P9.2: normal texts, written out; of such as are wrong, too.
func TestP9_2Normal(t *testing.T) {
	for text, want := range map[string]string{
		"":                              "",
		"\n":                            "",
		"\n\n \t\n;\n; a\n":             "",
		"a":                             "a\n",
		"a\n":                           "a\n",
		"a\nb":                          "a\nb\n",
		"\n\na\n\n\nb\n\n":              "a\nb\n",
		" a\t b ; c\n;d\n\te\t":         "a b\ne\n",
		"func  main\t>\n\tret ; x":      "func main >\nret\n",
		"func main >\nret\n":            "func main >\nret\n",
		"jmp nowhere\nfunc\nwrong : x;": "jmp nowhere\nfunc\nwrong : x\n",
		"\xff  \xfe;\n\xc3\n\xa9":       "\xff \xfe\n\xc3\n\xa9\n",
		"a\r\nb\u00a0\u2003c":           "a\r\nb\u00a0\u2003c\n",
		"a;\nb":                         "a\nb\n",
		"a;b;\n;":                       "a\n",
	} {
		if got := asm.Normal(text); got != want {
			t.Errorf("%q: %q; want %q", text, got, want)
		}
	}
}

// P9.2: a text that is too long for Parse has a normal one, too, which may be as long, or shorter.
func TestP9_2NormalOfLongTexts(t *testing.T) {
	for _, n := range []int{api.MaxText - 1, api.MaxText, api.MaxText + 1, 5 * api.MaxText} {
		if got := asm.Normal(strings.Repeat("x", n)); got != strings.Repeat("x", n)+"\n" {
			t.Errorf("a word of %d bytes: %d", n, len(got))
		}
		if got := asm.Normal(strings.Repeat("x\n", n)); got != strings.Repeat("x\n", n) {
			t.Errorf("%d words: %d bytes", n, len(got))
		}
		if got := asm.Normal("func main >\n" + strings.Repeat(" \t;\n", n) + "ret"); got != "func main >\nret\n" {
			t.Errorf("%d empty lines: %d bytes", n, len(got))
		}
		if got := asm.Normal("a" + strings.Repeat("\t", n) + "b"); got != "a b\n" {
			t.Errorf("%d blanks: %d bytes", n, len(got))
		}
	}
}

// P9.2: a function's labels, in the order in which they stand, whether anything jumps to them or not.
func TestP9_2Labels(t *testing.T) {
	const text = "shape I\nfunc main >\nz: ; last\n\tb:\njmp end\n a:\nend:\nret\nc:\nfunc none >\nlocal I\nret\nfunc f >\nb:\nL10:\nL2:\ngoexit"
	for fn, want := range [][]string{{"z", "b", "a", "end", "c"}, nil, {"b", "L10", "L2"}} {
		if got := asm.Labels(text, fn); !slices.Equal(got, want) {
			t.Errorf("of %d: %q; want %q", fn, got, want)
		}
	}
	agrees(t, text)
}

// P9.2: of a function that there is not there are no labels.
func TestP9_2LabelsOfNoFunction(t *testing.T) {
	for _, text := range []string{"func main >\na:\nret", "func main >\na:\nret\nfunc f >\nb:\nret"} {
		n := strings.Count(text, "func")
		for _, fn := range []int{-1 << 63, -n, -2, -1, n, n + 1, 63, 64, 1 << 32, 1<<63 - 1} {
			if got := asm.Labels(text, fn); len(got) != 0 {
				t.Errorf("%q, %d: %q", text, fn, got)
			}
		}
		if got := asm.Labels(text, 0); !slices.Equal(got, []string{"a"}) {
			t.Errorf("%q: %q", text, got)
		}
	}
}

// P9.2: of a text that says no image there are no labels, whatever is wrong.
func TestP9_2LabelsOfNoImage(t *testing.T) {
	for _, text := range []string{
		"", "a:", "func main >\na:", "func main >\na:\nnop", "func main >\na:\nret\nwrong", "func main >\na:\nret\na:", "func main >\na:\njmp b", "func main >\na:\ncall f\nret",
		"func main >\na:\nret\nfunc main >\nret", "func main >\na:\nret\nfunc f >", "wrong\nfunc main >\na:\nret", "func main >\na:\njmp 1",
		strings.Repeat("shape I\n", 65) + "func main >\na:\nret",
		"func main >\na:\nret\n" + strings.Repeat("\n", api.MaxText),
	} {
		for fn := -1; fn < 3; fn++ {
			if got := asm.Labels(text, fn); len(got) != 0 {
				t.Errorf("%s, %d: %q", short(text), fn, got)
			}
		}
	}
}
