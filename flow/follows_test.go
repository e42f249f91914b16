package flow_test

import (
	"slices"
	"testing"

	"backstay/api"
	"backstay/flow"
)

// told is all that flow tells of a list and of a place.
func told(l []api.Instr, at int) [][]int {
	behind, _ := flow.Behind(l, at)
	ahead, _ := flow.Ahead(l, at)
	must, _ := flow.Must(l, at)
	return [][]int{behind, ahead, must, flow.Reached(l), flow.Meets(l), flow.Loops(l)}
}

// copied are lists of their own.
func copied(lists [][]int) [][]int {
	var all [][]int
	for _, l := range lists {
		all = append(all, slices.Clone(l))
	}
	return all
}

// alike says whether two answers have the same lists.
func alike(a, b [][]int) bool { return slices.EqualFunc(a, b, slices.Equal[[]int]) }

// spoil writes over a list, and over all memory behind it.
func spoil[T any](l []T, with T) {
	l = l[:cap(l)]
	for i := range l {
		l[i] = with
	}
}

// bodies are some of all kinds and lengths.
func bodies(seed uint64) [][]api.Instr {
	return append(append(short(3), many(seed, 30, 300)...), long(512), ladder(100), diamonds(101))
}

// P11.3: no call changes the list that it is handed, nor what stands behind that in its memory.
func TestP11_3OnlyRead(t *testing.T) {
	for _, l := range append(bodies(5), nobodies(t)...) {
		room := append(slices.Clone(l), texts(t, "print, print, print")...)
		kept := slices.Clone(room)
		l = room[:len(l)]
		for _, at := range []int{-1, 0, 1, len(l) / 2, len(l) - 1, len(l)} {
			told(l, at)
			flow.Distance(l, at)
		}
		if !slices.Equal(room, kept) {
			t.Fatalf("%v: now %v", kept, room)
		}
	}
}

// P11.3: what is answered stays as it is, whatever becomes of the list and of the other answers.
func TestP11_3AnswersAreNew(t *testing.T) {
	for _, l := range bodies(6) {
		kept := slices.Clone(l)
		for _, at := range []int{0, len(l) / 2, len(l) - 1} {
			first := told(l, at)
			want := copied(first)
			again := told(l, at)
			for i, one := range again {
				spoil(one, -9)
				if !alike(again[i+1:], want[i+1:]) {
					t.Fatalf("%v, %d: now %v; want %v", l, at, again, want)
				}
			}
			if !slices.Equal(l, kept) || !alike(first, want) || !alike(told(l, at), want) {
				t.Fatalf("%v, %d: now %v, %v; want %v", kept, at, l, first, want)
			}
			spoil(l, api.Instr{Op: -9, A: -9, B: -9})
			if !alike(first, want) {
				t.Fatalf("%v, %d: now %v; want %v", kept, at, first, want)
			}
			copy(l, kept)
			if !alike(told(l, at), want) {
				t.Fatalf("%v, %d: now %v; want %v", kept, at, told(l, at), want)
			}
		}
	}
}

// P11.3: nothing of a list is kept: one that was written into is another one.
func TestP11_3KeepsNothing(t *testing.T) {
	l := texts(t, "jz 3, nop, jmp 0, in, goexit, nop, ret")
	told(l, 4)
	l[3] = api.Instr{Op: api.OpJmp, A: 6}
	if got := flow.Reached(l); !slices.Equal(got, []int{0, 1, 2, 3, 6}) {
		t.Error(got)
	}
	if got, e := flow.Must(l, 6); !slices.Equal(got, []int{0, 3, 6}) || e != api.OK {
		t.Error(got, e)
	}
	l[6] = api.Instr{}
	isNone(t, l)
}

// P11.4: what is reached has 0, and what comes behind what it has; and no fewer: each but 0 comes behind a nearer one.
func TestP11_4ReachedIsLeast(t *testing.T) {
	for _, l := range bodies(7) {
		reached := flow.Reached(l)
		if !isBody(l) {
			continue
		}
		if !slices.Contains(reached, 0) || !slices.IsSorted(reached) {
			t.Errorf("%v: reached %v", l, reached)
		}
		for _, at := range reached {
			behind, e := flow.Behind(l, at)
			if e != api.OK || slices.ContainsFunc(behind, func(p int) bool { return !slices.Contains(reached, p) }) {
				t.Errorf("%v: reached %v, behind %d %v, error %d", l, reached, at, behind, e)
			}
			ahead, e := flow.Ahead(l, at)
			n, f := flow.Distance(l, at)
			nearer := slices.ContainsFunc(ahead, func(p int) bool {
				m, g := flow.Distance(l, p)
				return g == api.OK && m == n-1
			})
			if e != api.OK || f != api.OK || (at == 0) != (n == 0) || at != 0 && !nearer {
				t.Errorf("%v: %d at %d, ahead of it %v, errors %d, %d", l, at, n, ahead, e, f)
			}
		}
	}
}

// P11.4: a step leads one farther at most; and it leads to a place that it is ahead of.
func TestP11_4StepsAndDistances(t *testing.T) {
	for _, l := range bodies(8) {
		for _, at := range flow.Reached(l) {
			n, _ := flow.Distance(l, at)
			behind, _ := flow.Behind(l, at)
			for _, next := range behind {
				if m, e := flow.Distance(l, next); m > n+1 || e != api.OK {
					t.Errorf("%v: %d at %d, %d at %d, error %d", l, at, n, next, m, e)
				}
				if ahead, e := flow.Ahead(l, next); !slices.Contains(ahead, at) || e != api.OK {
					t.Errorf("%v: behind %d %v, ahead of %d %v, error %d", l, at, behind, next, ahead, e)
				}
			}
			ahead, _ := flow.Ahead(l, at)
			for _, p := range ahead {
				if behind, e := flow.Behind(l, p); !slices.Contains(behind, at) || e != api.OK {
					t.Errorf("%v: ahead of %d %v, behind %d %v, error %d", l, at, ahead, p, behind, e)
				}
			}
		}
	}
}

// P11.4: what must be passed on the way to what must be passed must be passed.
func TestP11_4MustOfMust(t *testing.T) {
	for _, l := range bodies(9) {
		musts := map[int][]int{}
		for _, at := range flow.Reached(l) {
			m, e := flow.Must(l, at)
			if e != api.OK || !slices.Contains(m, 0) || !slices.Contains(m, at) || !slices.IsSorted(m) {
				t.Errorf("%v: must of %d %v, error %d", l, at, m, e)
			}
			musts[at] = m
		}
		for at, m := range musts {
			for _, p := range m {
				if slices.ContainsFunc(musts[p], func(q int) bool { return !slices.Contains(m, q) }) {
					t.Errorf("%v: must of %d %v, of %d %v", l, at, m, p, musts[p])
				}
			}
		}
	}
}

// example is the body of the chapter's examples.
func example(t *testing.T) []api.Instr {
	t.Helper()
	return texts(t, "jz 3, nop, jmp 0, in, goexit, nop, ret")
}

// The chapter's examples.
func TestP11_1Examples(t *testing.T) {
	l := example(t)
	if got := flow.Reached(l); !slices.Equal(got, []int{0, 1, 2, 3, 4}) {
		t.Errorf("reached %v", got)
	}
	if got, e := flow.Ahead(l, 0); !slices.Equal(got, []int{2}) || e != api.OK {
		t.Errorf("ahead %v, error %d", got, e)
	}
}

func TestP11_2Examples(t *testing.T) {
	l := example(t)
	if got, e := flow.Distance(l, 4); got != 2 || e != api.OK {
		t.Errorf("distance %d, error %d", got, e)
	}
	if got := flow.Meets(l); !slices.Equal(got, []int{0}) {
		t.Errorf("meets %v", got)
	}
	if got := flow.Loops(l); !slices.Equal(got, []int{0, 1, 2}) {
		t.Errorf("loops %v", got)
	}
	if got, e := flow.Must(l, 4); !slices.Equal(got, []int{0, 3, 4}) || e != api.OK {
		t.Errorf("must %v, error %d", got, e)
	}
	if got, e := flow.Must(l, 5); len(got) != 0 || e != api.ErrFlow {
		t.Errorf("must %v, error %d; want ErrFlow", got, e)
	}
}
