package shape

import (
	"backstay/api"
	"backstay/value"
)

// arrow stands between arguments and results.
const arrow = '>'

// Show is a shape's text.
func Show(s api.Shape) string {
	if Check(s) != api.OK {
		return ""
	}
	return value.Text(s)
}

// Read is a text's shape.
func Read(text string) (api.Shape, api.Errno) {
	l, e := value.Types(text)
	if e != api.OK {
		return nil, api.ErrShape
	}
	return ifShape(l)
}

// ShowSignature is a signature's text.
func ShowSignature(g api.Signature) string {
	if CheckSignature(g) != api.OK {
		return ""
	}
	return value.Text(g.Args) + string(arrow) + value.Text(g.Results)
}

// ReadSignature is a text's signature.
func ReadSignature(text string) (api.Signature, api.Errno) {
	left, right, ok := halves(text)
	if !ok {
		return api.Signature{}, api.ErrSignature
	}
	args, e := value.Types(left)
	if e != api.OK {
		return api.Signature{}, api.ErrSignature
	}
	// A second arrow is no type's letter, so it falls here.
	results, e := value.Types(right)
	if e != api.OK {
		return api.Signature{}, api.ErrSignature
	}
	return ifSignature(api.Signature{Args: args, Results: results})
}

// halves are what stands ahead of a text's first arrow, and behind it.
func halves(text string) (left, right string, ok bool) {
	for at, letter := range text {
		if letter == arrow {
			return text[:at], text[at+len(string(arrow)):], true
		}
	}
	return "", "", false
}
