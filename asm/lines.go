package asm

import (
	"iter"
	"strings"
)

// What parts a text.
const (
	feed  = '\n' // ends a line
	note  = ';'  // begins what says nothing
	blank = ' '  // parts words, as a tab does
	tab   = '\t'
	colon = ':' // ends a label
)

// lines tells a text's lines, numbered from 1 on, each without its line feed.
func lines(text string) iter.Seq2[int, string] {
	return func(yield func(int, string) bool) {
		number, from := 1, 0
		for at, c := range text {
			if c != feed {
				continue
			}
			if !yield(number, text[from:at]) {
				return
			}
			number, from = number+1, at+len(string(feed))
		}
		if from < len(text) {
			yield(number, text[from:])
		}
	}
}

// Words are a line's.
func Words(line string) []string {
	said := line
	if at := strings.IndexFunc(line, ends); at >= 0 {
		said = line[:at]
	}
	// Of a clone, so that what is answered shares nothing with what was handed in.
	return strings.FieldsFunc(strings.Clone(said), parts)
}

// joined are words parted by one blank.
func joined(words []string) string {
	return strings.Join(words, string(blank))
}

// ends says whether behind a rune there are no more words in a line.
func ends(c rune) bool {
	return c == feed || c == note
}

// parts says whether a rune stands between words.
func parts(c rune) bool {
	return c == blank || c == tab
}
