package function_test

import (
	"bytes"
	"slices"
	"testing"

	"backstay/api"
	"backstay/function"
	"backstay/value"
	"backstay/vary"
)

// spoil writes over a list, and over all memory behind it.
func spoil[T any](l []T, with T) {
	l = l[:cap(l)]
	for i := range l {
		l[i] = with
	}
}

// spoilAll writes over a function's lists.
func spoilAll(f api.Function) {
	spoil(f.Sig.Args, -9)
	spoil(f.Sig.Results, -9)
	spoil(f.Locals, -9)
	spoil(f.Body, api.Instr{Op: -9, A: -9, B: -9})
}

// whole is a function with all memory behind its lists.
func whole(f api.Function) api.Function {
	all := func(l []int) []int { return l[:cap(l)] }
	return api.Function{Name: f.Name, Sig: api.Signature{Args: all(f.Sig.Args), Results: all(f.Sig.Results)}, Locals: all(f.Locals), Body: f.Body[:cap(f.Body)]}
}

// P7.4: no call changes the function that it is handed, nor what stands behind its lists in their memory.
func TestP7_4FunctionsOnlyRead(t *testing.T) {
	for _, one := range append(functions(), noFunctions()...) {
		f := again(one)
		kept := again(whole(f))
		args, l := valued(f.Sig.Args, 1), valued(typesOf(f), 1)
		function.Named(f.Name)
		function.Check(f)
		function.Encode(f)
		function.Slots(f)
		function.Pointers(f)
		for _, i := range []int{-1, 0, len(l) - 1, len(l)} {
			function.Slot(f, i)
		}
		function.Begin(f, args...)
		function.Results(f, l)
		function.Same(f, one)
		function.Same(one, f)
		function.Same(f, f)
		function.Copy(f)
		if !like(whole(f), kept) || !like(f, one) {
			t.Fatalf("%v: now %v", one, whole(f))
		}
	}
}

// P7.4: nor the values, nor what stands behind them.
func TestP7_4ValuesOnlyRead(t *testing.T) {
	for i, f := range append(functions(), noFunctions()...) {
		args, l := roomy(valued(f.Sig.Args, i)), roomy(valued(typesOf(f), i))
		keptArgs, kept := slices.Clone(args[:cap(args)]), slices.Clone(l[:cap(l)])
		begun, _ := function.Begin(f, args...)
		spoil(begun, api.Value{Type: -9})
		results, _ := function.Results(f, l)
		spoil(results, api.Value{Type: -9})
		if !slices.Equal(args[:cap(args)], keptArgs) || !slices.Equal(l[:cap(l)], kept) {
			t.Fatalf("%v: now %v, %v", f, args[:cap(args)], l[:cap(l)])
		}
	}
}

// P7.4: values that were answered stay, whatever becomes of those that were handed in, and of the function.
func TestP7_4ValuesAreNew(t *testing.T) {
	for i, one := range functions() {
		f := again(one)
		args, l := valued(f.Sig.Args, i), valued(typesOf(f), i)
		begun, e := function.Begin(f, args...)
		if e != api.OK {
			t.Fatalf("%v: error %d", f, e)
		}
		results, e := function.Results(f, l)
		if e != api.OK {
			t.Fatalf("%v: error %d", f, e)
		}
		wantBegun, want := slices.Clone(begun), slices.Clone(results)
		spoil(args, api.Value{Type: -9})
		spoil(l, api.Value{Type: -9})
		spoilAll(f)
		if !slices.Equal(begun, wantBegun) || !slices.Equal(results, want) {
			t.Errorf("%v: %v, %v; want %v, %v", one, begun, results, wantBegun, want)
		}
	}
}

// P7.4: so are slots, pointers and bytes new memory.
func TestP7_4ListsAreNew(t *testing.T) {
	for _, one := range functions() {
		f := again(one)
		slots, pointers := function.Slots(f), function.Pointers(f)
		b, _ := function.Encode(f)
		wantPointers := slices.Clone(pointers)
		spoil(function.Slots(f), -9)
		spoil(function.Pointers(f), -9)
		other, _ := function.Encode(f)
		spoil(other, 0xEE)
		if !like(f, one) {
			t.Fatalf("%v: now %v", one, f)
		}
		spoilAll(f)
		if !slices.Equal(slots, typesOf(one)) || !slices.Equal(pointers, wantPointers) || !bytes.Equal(b, bytesOf(t, one)) {
			t.Errorf("%v: %v, %v, % X", one, slots, pointers, b)
		}
	}
}

// P7.4: a copy shares nothing with what it was made of.
func TestP7_4CopiesAreNew(t *testing.T) {
	for _, one := range append(functions(), noFunctions()...) {
		f := again(one)
		g := function.Copy(f)
		spoilAll(g)
		if !like(f, one) {
			t.Fatalf("%v: now %v", one, f)
		}
		g = function.Copy(f)
		spoilAll(f)
		if !like(g, one) {
			t.Errorf("%v; want %v", g, one)
		}
	}
}

// P7.4: no two lists of one copy, or of one function that was read, share any memory.
func TestP7_4ListsShareNothing(t *testing.T) {
	for _, f := range functions() {
		for _, made := range []func() api.Function{
			func() api.Function { return function.Copy(f) },
			func() api.Function {
				g, _ := function.Decode(vary.On(bytesOf(t, f)))
				return g
			},
		} {
			one, two := made(), made()
			spoil(one.Sig.Args, -9)
			if !slices.Equal(one.Sig.Results, f.Sig.Results) || !slices.Equal(one.Locals, f.Locals) {
				t.Errorf("%v: now %v", f, one)
			}
			spoil(one.Sig.Results, -9)
			if !slices.Equal(one.Locals, f.Locals) || !slices.Equal(one.Body, f.Body) {
				t.Errorf("%v: now %v", f, one)
			}
			spoilAll(one)
			three := made()
			spoil(three.Locals, -9)
			if !slices.Equal(three.Sig.Args, f.Sig.Args) || !slices.Equal(three.Sig.Results, f.Sig.Results) || !like(two, f) {
				t.Errorf("%v: now %v, %v", f, three, two)
			}
		}
	}
}

// P7.4: of a Reel's bytes nothing is changed, and what was read stays, whatever becomes of them.
func TestP7_4BytesOnlyRead(t *testing.T) {
	for _, f := range functions() {
		b := append(bytesOf(t, f), 1, 0x18)
		kept := slices.Clone(b)
		got, e := function.Decode(vary.On(b))
		if e != api.OK || !bytes.Equal(b, kept) {
			t.Fatalf("%v: error %d, % X", f, e, b)
		}
		clear(b)
		if !like(got, f) {
			t.Errorf("%v; want %v", got, f)
		}
	}
}

// P7.4: a Reel from which a function was read reads on as it would have, whatever becomes of that.
func TestP7_4ReelReadsOn(t *testing.T) {
	b := bytesOf(t, example())
	r := vary.On(append(append(b, b...), 99))
	for range 2 {
		f, e := function.Decode(r)
		if !like(f, example()) || e != api.OK {
			t.Fatalf("%v, error %d", f, e)
		}
		spoilAll(f)
	}
	if n, e := r.Number(99); n != 99 || e != api.OK || r.End() != api.OK {
		t.Errorf("%d, error %d", n, e)
	}
}

// P7.5: a function is read from its bytes as it was.
func TestP7_5RoundTrip(t *testing.T) {
	for _, f := range functions() {
		b, e := function.Encode(f)
		if e != api.OK {
			t.Fatalf("%v: error %d", f, e)
		}
		r := vary.On(b)
		if g, e := function.Decode(r); !function.Same(f, g) || !like(f, g) || e != api.OK || r.End() != api.OK {
			t.Errorf("%v: %v, error %d at %d", f, g, e, r.At())
		}
	}
}

// justThese fails, unless what is read of bytes, if anything, may be, and has just those that were read.
func justThese(t *testing.T, b []byte) (read bool) {
	t.Helper()
	r := vary.On(b)
	f, e := function.Decode(r)
	if e != api.OK {
		if e != api.ErrFunction || !nothing(f) {
			t.Fatalf("% X: %v, error %d", b, f, e)
		}
		return false
	}
	if again, e := function.Encode(f); !isName(f.Name) || function.Check(f) != api.OK || !bytes.Equal(again, b[:r.At()]) || e != api.OK {
		t.Fatalf("% X: %v, error %d, % X", b, f, e, again)
	}
	return true
}

// P7.5: one bit of a function's bytes turned: what is read is another one, and has just those bytes, or nothing is read.
func TestP7_5TurnedBits(t *testing.T) {
	for _, f := range functions() {
		if len(f.Body) > 100 {
			continue
		}
		b := bytesOf(t, f)
		for bit := range 8 * len(b) {
			turned := slices.Clone(b)
			turned[bit/8] ^= 1 << (bit % 8)
			if !justThese(t, turned) {
				continue
			}
			if g, _ := function.Decode(vary.On(turned)); function.Same(f, g) {
				t.Errorf("% X and % X: both %v", b, turned, g)
			}
		}
	}
}

// P7.5: one byte of a function's bytes is another one, or goes, or comes in between.
func TestP7_5OtherBytes(t *testing.T) {
	read := 0
	for _, f := range []api.Function{example(), sized(3, 2, 4, 1), sized(0, 0, 5, 2), sized(9, 9, 9, 3), sized(1, 0, 0, 4)} {
		b := bytesOf(t, f)
		for at := range b {
			justThese(t, slices.Delete(slices.Clone(b), at, at+1))
			for x := range 256 {
				other := slices.Clone(b)
				other[at] = byte(x)
				if justThese(t, other) {
					read++
				}
				justThese(t, slices.Insert(slices.Clone(b), at, byte(x)))
			}
		}
	}
	if read < 100 {
		t.Errorf("only %d were read", read)
	}
}

// P7.5: whatever bytes there are behind a name, or behind one that is none, of such as often stand there.
func TestP7_5AnyBytes(t *testing.T) {
	some := []int{0, 0, 0, 0, 1, 1, 1, 2, 4, 0x12, 0x18, 0x18, 0x19, 0x80}
	read := 0
	for start := range 200000 {
		b := [][]byte{{1, 'f'}, {2, 'Z', '9'}, {}, {1, '0'}, {2, 'a', '_'}}[start%5]
		for _, x := range long(5+start%12, start, some) {
			b = append(b, byte(x))
		}
		if justThese(t, b) {
			read++
		}
	}
	if read < 100 {
		t.Errorf("only %d were read", read)
	}
}

// P7.5: at its begin a function's slots fit their types, arguments are what was handed in, and all others zeros; so are its results.
func TestP7_5AtItsBegin(t *testing.T) {
	for i, f := range functions() {
		args := valued(f.Sig.Args, i)
		begun, e := function.Begin(f, args...)
		if e != api.OK || !value.Fits(function.Slots(f), begun) {
			t.Fatalf("%v: %v, error %d", f, begun, e)
		}
		for at, v := range begun {
			want := api.Value{Type: v.Type}
			if what, _, _ := function.Slot(f, at); what == api.SlotArg {
				want = args[at]
			}
			if v != want {
				t.Errorf("%v: slot %d is %v; want %v", f, at, v, want)
			}
		}
		if results, e := function.Results(f, begun); !slices.Equal(results, zeros(f.Sig.Results)) || e != api.OK {
			t.Errorf("%v: results %v, error %d", f, results, e)
		}
	}
}
