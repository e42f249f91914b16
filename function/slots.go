package function

import (
	"iter"
	"slices"

	"backstay/api"
	"backstay/value"
)

// What slots are, in the order in which they stand; past is the number behind the last kind.
const (
	argument = api.SlotArg + iota
	result
	local
	past
)

// slot is what one is, and its type.
type slot struct{ what, t int }

// Slots are a function's slots' types.
func Slots(f api.Function) []int {
	if Check(f) != api.OK {
		return nil
	}
	return types(f)
}

// Slot is what a slot is, and its type.
func Slot(f api.Function, i int) (what, t int, e api.Errno) {
	if Check(f) != api.OK {
		return 0, 0, api.ErrSlot
	}
	for at, s := range slots(f) {
		if at == i {
			return s.what, s.t, api.OK
		}
	}
	return 0, 0, api.ErrSlot
}

// Pointers are the slots of type P.
func Pointers(f api.Function) []int {
	if Check(f) != api.OK {
		return nil
	}
	var numbers []int
each:
	for i, s := range slots(f) {
		// No result is a pointer.
		if s != (slot{argument, api.TypeP}) && s != (slot{local, api.TypeP}) {
			continue each
		}
		numbers = append(numbers, i)
	}
	return numbers
}

// Begin are slots' values at the begin.
func Begin(f api.Function, args ...api.Value) ([]api.Value, api.Errno) {
	switch {
	case Check(f) != api.OK:
		return nil, api.ErrFunction
	case !value.Fits(f.Sig.Args, args):
		return nil, api.ErrArgs
	}
	// Of a function that may be they are types, so there are zeros.
	values, _ := value.Zeros(types(f))
	copy(values, args)
	return values, api.OK
}

// Results are those of slots.
func Results(f api.Function, slots []api.Value) ([]api.Value, api.Errno) {
	switch {
	case Check(f) != api.OK:
		return nil, api.ErrFunction
	case !value.Fits(types(f), slots):
		return nil, api.ErrSlot
	}
	from := len(f.Sig.Args)
	return slices.Clone(slots[from : from+len(f.Sig.Results)]), api.OK
}

// slots tells a function's slots, with their numbers.
func slots(f api.Function) iter.Seq2[int, slot] {
	kinds := [past][]int{argument: f.Sig.Args, result: f.Sig.Results, local: f.Locals}
	return func(yield func(int, slot) bool) {
		i := 0
		for what, l := range kinds {
			for _, t := range l {
				if !yield(i, slot{what, t}) {
					return
				}
				i++
			}
		}
	}
}

// types are those of a function's slots.
func types(f api.Function) []int {
	var l []int
	for _, s := range slots(f) {
		l = append(l, s.t)
	}
	return l
}
