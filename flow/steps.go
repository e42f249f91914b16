package flow

import (
	"iter"
	"slices"

	"backstay/api"
	"backstay/code"
	"backstay/opcode"
)

// steps are a body's: for each of its places those that come behind it.
type steps [][]int

// stepsOf are a list's, if that is a body; of others there are none.
func stepsOf(l []api.Instr) steps {
	if code.Check(l) != api.OK {
		return nil
	}
	s := make(steps, len(l))
	for at, x := range l {
		s[at] = behind(x, at)
	}
	return s
}

// behind is what comes behind the place of an instruction, rising.
func behind(x api.Instr, at int) []int {
	next := at + 1
	to, goes := opcode.Goes(x)
	ends := opcode.Ends(x)
	switch {
	case goes && ends:
		return []int{to}
	case ends:
		return nil
	case !goes || to == next:
		return []int{next}
	}
	return []int{min(to, next), max(to, next)}
}

// anywhere is open to all ways.
func anywhere(int) bool { return true }

// nearest tells the places to which ways lead from one, the nearest ones first, each once and with the one ahead of it on a nearest way. The place they lead from comes first, with itself. No way goes on to a place that is not open.
func (s steps) nearest(from int, open func(place int) bool) iter.Seq2[int, int] {
	return func(yield func(int, int) bool) {
		if from >= len(s) {
			// What is no body has no place 0.
			return
		}
		came := map[int]int{from: from}
		line := []int{from}
		for len(line) > 0 {
			place := line[0]
			line = line[1:]
			if !yield(place, came[place]) {
				return
			}
			for _, next := range s[place] {
				if _, met := came[next]; !met && open(next) {
					came[next] = place
					line = append(line, next)
				}
			}
		}
	}
}

// reached are the places that are, each with the one ahead of it on a nearest way from 0.
func (s steps) reached() map[int]int {
	came := map[int]int{}
	for place, from := range s.nearest(0, anywhere) {
		came[place] = from
	}
	return came
}

// way is a nearest one from 0 to a place, with both; there is none to a place that is not reached.
func (s steps) way(at int) []int {
	came := s.reached()
	if _, ok := came[at]; !ok {
		return nil
	}
	way := []int{at}
	for at != 0 {
		at = came[at]
		way = append(way, at)
	}
	slices.Reverse(way)
	return way
}

// narrows are the places of a way from 0 that no other way to its last one goes around, in its order.
func (s steps) narrows(way []int) []int {
	// Where on the way a place is; 0, too, for one beside it that was gone through.
	where := map[int]int{}
	for i, place := range way {
		where[place] = i
	}
	around := func(place int) bool {
		_, closed := where[place]
		return !closed
	}
	var narrows []int
	// To where on the way one comes from its places so far. A place is gone around just if that is behind it.
	farthest := 0
	for i, place := range way {
		if farthest == i {
			narrows = append(narrows, place)
		}
		for p := range s.nearest(place, around) {
			for _, next := range s[p] {
				farthest = max(farthest, where[next])
			}
			if around(p) {
				// Once is enough: another time one comes no farther from there.
				where[p] = 0
			}
		}
	}
	return narrows
}

// comesBack says whether a way of one step or more leads from a place to itself.
func (s steps) comesBack(at int) bool {
	back := false
search:
	for place := range s.nearest(at, anywhere) {
		for _, next := range s[place] {
			if next == at {
				back = true
				break search
			}
		}
	}
	return back
}
