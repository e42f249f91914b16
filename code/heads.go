package code

import (
	"iter"
	"slices"

	"backstay/api"
	"backstay/opcode"
)

// Heads are those of a body.
func Heads(l []api.Instr) []int {
	if Check(l) != api.OK {
		return nil
	}
	met := headsMet(l)
	rising := make([]int, len(l))
	n := 0
	for at := range l {
		if met[at] > 0 {
			rising[n] = at
			n++
		}
	}
	return rising[:n:n]
}

// Stretch is where one begins, and ends.
func Stretch(l []api.Instr, head int) (from, to int, e api.Errno) {
	heads := Heads(l)
	i, ok := slices.BinarySearch(heads, head)
	switch {
	case !ok:
		return 0, 0, api.ErrCode
	case i == len(heads)-1:
		return head, len(l), api.OK
	}
	return head, heads[i+1], api.OK
}

// headsMet are a body's heads, each with how many make it one.
func headsMet(l []api.Instr) map[int]int {
	met := map[int]int{0: 1}
instructions:
	for at, x := range l {
		for head := range madeBy(x, at) {
			if head == len(l) {
				// Behind the last one there is no place.
				continue instructions
			}
			met[head]++
		}
	}
	return met
}

// madeBy tells the places that an instruction at a place makes heads: first where it goes, then the one behind it.
func madeBy(x api.Instr, at int) iter.Seq[int] {
	return func(yield func(int) bool) {
		// What goes is a jmp, which ends, or a jz.
		to, goes := opcode.Goes(x)
		if goes && !yield(to) {
			return
		}
		if goes || opcode.Ends(x) {
			yield(at + 1)
		}
	}
}
