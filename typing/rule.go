package typing

import "backstay/api"

// rule is how an instruction steps: how many operands it takes, and what it leaves where some were taken.
type rule struct {
	takes  int
	leaves func(taken []int) ([]int, api.Errno)
}

// depending are the rules of what takes and leaves whatever is there, by op.
func depending() map[int]rule {
	return map[int]rule{
		api.OpDup:  {1, picked(0, 0)},
		api.OpDrop: {1, picked()},
		api.OpSwap: {2, picked(1, 0)},
	}
}

// picked leaves those of the taken that stood at some places, the lowest at 0.
func picked(places ...int) func(taken []int) ([]int, api.Errno) {
	return func(taken []int) ([]int, api.Errno) {
		l := make([]int, 0, len(places))
		for _, at := range places {
			l = append(l, taken[at])
		}
		return l, api.OK
	}
}

// typed is the rule of what takes certain types alone.
func typed(takes, leaves []int) rule {
	return rule{len(takes), func(taken []int) ([]int, api.Errno) {
		// There are as many, so only their types may be wrong.
		if e := Meet(taken, takes); e != api.OK {
			return nil, e
		}
		return leaves, api.OK
	}}
}

// apply is the state behind a step from another one.
func (r rule) apply(state []int) ([]int, api.Errno) {
	if len(state) < r.takes {
		return nil, api.ErrHeight
	}
	below, taken := parted(state, len(state)-r.takes)
	left, e := r.leaves(taken)
	switch {
	case e != api.OK:
		return nil, e
	case len(below)+len(left) > api.MaxHeight:
		return nil, api.ErrHeight
	}
	return append(below, left...), api.OK
}

// parted are a list's two parts, ahead of a place and from there on. The first one ends where it is cut, so that what is put behind it does not go over the other.
func parted[T any](l []T, at int) (ahead, rest []T) {
	return l[:at:at], l[at:]
}
