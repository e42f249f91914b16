package image_test

import (
	"encoding/hex"
	"hash/adler32"
	"math"
	"slices"
	"strconv"
	"strings"
	"testing"

	"backstay/api"
)

// typed are the types of letters.
func typed(s string) []int {
	var l []int
	for _, c := range s {
		l = append(l, strings.IndexRune(" IRFP", c))
	}
	return l
}

// long are so many types out of some, that come in no simple turn, by a number that starts them.
func long(n, start int, of string) []int {
	some, l := typed(of), make([]int, n)
	seed := uint64(start)*2654435761 + 12345
	for i := range l {
		seed = seed*6364136223846793005 + 1442695040888963407
		l[i] = some[seed>>33%uint64(len(some))]
	}
	return l
}

// sig is the signature of two texts of letters.
func sig(args, results string) api.Signature {
	return api.Signature{Args: typed(args), Results: typed(results)}
}

// ret is the shortest body.
func ret() []api.Instr { return []api.Instr{{Op: api.OpRet}} }

// body is a list of instructions, and its bytes.
type body struct {
	l []api.Instr
	b string
}

// bodies are some, with their bytes written out.
func bodies() []body {
	whole := make([]api.Instr, 512)
	whole[511].Op = api.OpRet
	return []body{
		{ret(), "01 18"},
		{[]api.Instr{{Op: api.OpJmp}}, "01 12 00"},
		{[]api.Instr{{Op: api.OpInt, A: -1}, {Op: api.OpPanic}}, "02 01 01 19"},
		// What it refers to is not asked here: it may be that there is no such slot, shape or function.
		{[]api.Instr{{Op: api.OpLoad, A: 63}, {Op: api.OpNew, A: 63}, {Op: api.OpCall, A: 63}, {Op: api.OpGoexit}}, "04 03 3F 08 3F 14 3F 1B"},
		{[]api.Instr{{Op: api.OpIn}, {Op: api.OpDrop}, {Op: api.OpJz, A: 4}, {Op: api.OpNop}, {Op: api.OpRet}}, "05 1D 0D 13 04 00 18"},
		{whole, "82 00" + strings.Repeat(" 00", 511) + " 18"},
	}
}

// named is a function that may be, of a name, its types and its body (but the longest) by a number.
func named(name string, i int) api.Function {
	return api.Function{
		Name:   name,
		Sig:    api.Signature{Args: long(i%5, i, "IRFP"), Results: long(i%4, i+1, "IRF")},
		Locals: long(i%7, i+2, "IRFP"),
		Body:   bodies()[i%(len(bodies())-1)].l,
	}
}

// some are so many functions that may be, no two of one name, by a number that starts them.
func some(n, start int) []api.Function {
	var l []api.Function
	for i := range n {
		l = append(l, named("f"+strconv.Itoa(i), start+i))
	}
	return l
}

// shaped are so many shapes that may be, some of them the same, by a number that starts them.
func shaped(n, start int) []api.Shape {
	var l []api.Shape
	for i := range n {
		l = append(l, long(1+(start+3*i)%16, start+i, "IRF"))
	}
	return l
}

// greatest is an image none of whose parts could have more.
func greatest() api.Image {
	var p api.Image
	for i := range 64 {
		p.Shapes = append(p.Shapes, long(16, i, "IRF"))
		p.Functions = append(p.Functions, api.Function{
			Name:   strings.Repeat("z", 30) + strconv.Itoa(10+i),
			Sig:    api.Signature{Args: long(20, i, "IRFP"), Results: long(20, i+1, "IRF")},
			Locals: long(24, i+2, "IRFP"),
			Body:   bodies()[len(bodies())-1].l,
		})
	}
	return p
}

// example is an image of two shapes and three functions.
func example() api.Image {
	return api.Image{
		Shapes: []api.Shape{typed("IRF"), typed("RRRRI")},
		Functions: []api.Function{
			{Name: "main", Sig: sig("", "I"), Body: []api.Instr{{Op: api.OpCall, A: 1}, {Op: api.OpRet}}},
			{Name: "f", Sig: sig("IP", "R"), Locals: typed("F"), Body: ret()},
			{Name: "F", Sig: sig("PPPPI", "FR"), Locals: typed("IPR"), Body: []api.Instr{{Op: api.OpJmp}}},
		},
	}
}

// least is the image of the chapter's examples.
func least() api.Image {
	return api.Image{Functions: []api.Function{{Name: "f", Body: ret()}}}
}

// small are images that may be, of few parts.
func small() []api.Image {
	var all []api.Image
	for i, n := range []int{0, 0, 1, 2, 3, 5} {
		all = append(all, api.Image{Shapes: shaped(n, i), Functions: some(1+i%4, i)})
	}
	return append(all, least(), example())
}

// images are some that may be: each number of shapes, and of functions, up to the greatest, and names that are almost one.
func images() []api.Image {
	all := append(small(), greatest())
	for n := range 65 {
		all = append(all, api.Image{Shapes: shaped(n, n), Functions: some(1+n%3, n)})
		if n > 0 {
			all = append(all, api.Image{Shapes: shaped(n%3, n), Functions: some(n, n)})
		}
	}
	var near api.Image
	for i, name := range []string{"a", "A", "aa", "aA", "Aa", "a0", "a00", "a1", "main", "Main", "mai", "maine", strings.Repeat("a", 31), strings.Repeat("a", 32), strings.Repeat("a", 31) + "b"} {
		near.Functions = append(near.Functions, named(name, i))
	}
	// Functions that are the same but for their names, and shapes that are the same.
	twins := api.Image{Shapes: []api.Shape{typed("I"), typed("I"), typed("II")}}
	for _, name := range []string{"one", "two", "three"} {
		twins.Functions = append(twins.Functions, named(name, 9))
	}
	return append(all, near, twins)
}

// noImages are some that may not be, most of them for one reason alone.
func noImages() []api.Image {
	all := []api.Image{{}, {Shapes: shaped(3, 1)}, {Shapes: []api.Shape{}, Functions: []api.Function{}}, {Functions: []api.Function{{}}}}
	for _, n := range []int{65, 66, 127, 128, 129, 256, 320, 1 << 14} {
		all = append(all,
			api.Image{Shapes: shaped(n, n), Functions: some(1, n)},
			api.Image{Functions: some(n, n)},
			api.Image{Shapes: shaped(64, n), Functions: some(n, n)})
	}
	return slices.Concat(all, twice(), wrongShapes(), wrongFunctions())
}

// twice are images two of whose functions have one name, wherever these stand, and whatever else they have.
func twice() []api.Image {
	var all []api.Image
	for _, n := range []int{2, 3, 10, 64} {
		for _, i := range []int{0, n / 2, n - 1} {
			for _, j := range []int{0, 1, n / 3, n - 2, n - 1} {
				if i == j {
					continue
				}
				alike, other := some(n, n), some(n, n)
				alike[i] = alike[j]
				other[i].Name = other[j].Name
				all = append(all, api.Image{Functions: alike}, api.Image{Shapes: shaped(2, n), Functions: other})
			}
		}
	}
	return all
}

// wrongShapes are images one of whose shapes may not be, wherever that stands.
func wrongShapes() []api.Image {
	var all []api.Image
	for _, s := range []api.Shape{nil, {}, {0}, {api.TypeP}, {5}, {-1}, {math.MinInt}, {256 + api.TypeI}, {api.TypeI, api.TypeP}, {api.TypeR, 0, api.TypeF}, long(17, 1, "IRF"), long(65, 1, "IRF")} {
		for _, n := range []int{1, 2, 5, 64} {
			for _, at := range []int{0, n / 2, n - 1} {
				p := api.Image{Shapes: shaped(n, n), Functions: some(2, n)}
				p.Shapes[at] = s
				all = append(all, p)
			}
		}
	}
	return all
}

// noFunctions are functions that may not be, each for one reason alone.
func noFunctions() []api.Function {
	return []api.Function{
		{},
		{Body: ret()},
		{Name: "0", Body: ret()},
		{Name: "a_b", Body: ret()},
		{Name: "\u00e9", Body: ret()},
		{Name: strings.Repeat("a", 33), Body: ret()},
		{Name: "a", Sig: api.Signature{Args: []int{0}}, Body: ret()},
		{Name: "a", Sig: api.Signature{Args: []int{5}}, Body: ret()},
		{Name: "a", Sig: sig("", "P"), Body: ret()},
		{Name: "a", Sig: sig("", strings.Repeat("I", 65)), Body: ret()},
		{Name: "a", Locals: []int{-1}, Body: ret()},
		{Name: "a", Sig: sig("I", "I"), Locals: long(63, 1, "IRFP"), Body: ret()},
		{Name: "a"},
		{Name: "a", Body: []api.Instr{{}}},
		{Name: "a", Body: []api.Instr{{Op: api.OpRet, A: 1}}},
		{Name: "a", Body: []api.Instr{{Op: api.OpJmp, A: 1}}},
		{Name: "a", Body: append(make([]api.Instr, 512), ret()...)},
	}
}

// wrongFunctions are images one of whose functions may not be, wherever that stands.
func wrongFunctions() []api.Image {
	var all []api.Image
	for _, f := range noFunctions() {
		for _, n := range []int{1, 2, 5, 64} {
			for _, at := range []int{0, n / 2, n - 1} {
				p := api.Image{Shapes: shaped(2, n), Functions: some(n, n)}
				p.Functions[at] = f
				all = append(all, p)
			}
		}
	}
	return all
}

// packed are types' bytes, as the chapter on shapes tells.
func packed(l []int) []byte {
	b := []byte{byte(len(l))}
	for four := range slices.Chunk(l, 4) {
		x, worth := 0, 1
		for _, t := range four {
			x += (t - 1) * worth
			worth *= 4
		}
		b = append(b, byte(x))
	}
	return b
}

// bytesOfFunction are a function's, as its chapter tells; the body is one of bodies, or main's of the example.
func bytesOfFunction(t *testing.T, f api.Function) []byte {
	t.Helper()
	b := append([]byte{byte(len(f.Name))}, f.Name...)
	b = slices.Concat(b, packed(f.Sig.Args), packed(f.Sig.Results), packed(f.Locals), []byte{0})
	for _, x := range append(bodies(), body{[]api.Instr{{Op: api.OpCall, A: 1}, {Op: api.OpRet}}, "02 14 01 18"}) {
		if slices.Equal(x.l, f.Body) {
			return append(b, unhex(t, x.b)...)
		}
	}
	t.Fatalf("%v: no body whose bytes are written out", f)
	return nil
}

// insideOf are an image's bytes between Magic and the sum, as the chapter tells; it may have parts too many, or two of one name.
func insideOf(t *testing.T, p api.Image) []byte {
	t.Helper()
	b := []byte{byte(len(p.Shapes))}
	for _, s := range p.Shapes {
		b = append(b, packed(s)...)
	}
	b = append(b, byte(len(p.Functions)))
	for _, f := range p.Functions {
		b = append(b, bytesOfFunction(t, f)...)
	}
	return b
}

// summed are bytes, and behind them their sum by the library of the language.
func summed(b []byte) []byte {
	n := adler32.Checksum(b)
	return append(slices.Clone(b), byte(n>>24), byte(n>>16), byte(n>>8), byte(n))
}

// closed are bytes behind Magic, and ahead of the sum of both.
func closed(inside []byte) []byte {
	return summed(append([]byte("bkst\x01"), inside...))
}

// bytesOf are an image's bytes, as the chapter tells.
func bytesOf(t *testing.T, p api.Image) []byte {
	t.Helper()
	return closed(insideOf(t, p))
}

// likeFunction says whether two functions are one; no list and an empty one are the same.
func likeFunction(f, g api.Function) bool {
	return f.Name == g.Name && slices.Equal(f.Sig.Args, g.Sig.Args) && slices.Equal(f.Sig.Results, g.Sig.Results) &&
		slices.Equal(f.Locals, g.Locals) && slices.Equal(f.Body, g.Body)
}

// like says whether two images are one.
func like(p, q api.Image) bool {
	return slices.EqualFunc(p.Shapes, q.Shapes, func(s, r api.Shape) bool { return slices.Equal(s, r) }) &&
		slices.EqualFunc(p.Functions, q.Functions, likeFunction)
}

// nothing says whether an image is none: what stands beside an error.
func nothing(p api.Image) bool { return len(p.Shapes) == 0 && len(p.Functions) == 0 }

// again is an image that is the same, in memory of its own, with room behind each list.
func again(p api.Image) api.Image {
	var q api.Image
	for _, s := range p.Shapes {
		q.Shapes = append(q.Shapes, roomy(s))
	}
	for _, f := range p.Functions {
		q.Functions = append(q.Functions, api.Function{
			Name:   strings.Clone(f.Name),
			Sig:    api.Signature{Args: roomy(f.Sig.Args), Results: roomy(f.Sig.Results)},
			Locals: roomy(f.Locals),
			Body:   roomy(f.Body),
		})
	}
	return api.Image{Shapes: roomy(q.Shapes), Functions: roomy(q.Functions)}
}

// roomy is a list in memory of its own, that goes on behind it.
func roomy[T any](l []T) []T {
	whole := append(make([]T, 0, len(l)+3), l...)
	return whole[: len(l) : len(l)+3]
}

// unhex are the bytes that a text tells, in pairs of digits.
func unhex(t *testing.T, s string) []byte {
	t.Helper()
	b, err := hex.DecodeString(strings.ReplaceAll(s, " ", ""))
	if err != nil {
		t.Fatal(err)
	}
	return b
}
