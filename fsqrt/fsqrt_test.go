package fsqrt

import (
	"math"
	"math/big"
	"testing"

	"vernier/api"
	"vernier/fmul"
)

// reference is the root as the chapter says it, of numbers whose roots another
// program takes.
func reference(a uint64, mode int) (uint64, int) {
	switch {
	case isNaN(a):
		return api.NaN, 0
	case isZero(a):
		return a, 0
	case a&sign != 0:
		return api.NaN, api.Invalid
	case isInf(a):
		return a, 0
	}
	// 200 bits or more, and a last one for what is below them.
	square := units(a)
	square.Lsh(square, 400)
	root := new(big.Int).Sqrt(square)
	rest := new(big.Int).Sub(square, new(big.Int).Mul(root, root))
	root.Lsh(root, 1)
	if rest.Sign() != 0 {
		root.Add(root, big.NewInt(1))
	}
	return rounded(false, root, (-1074-400)/2-1, mode)
}

// hold holds Sqrt's answer against the one that is wanted.
func hold(t *testing.T, promise string, a uint64, mode int, want uint64, wantFlags int) {
	t.Helper()
	if got, flags := Sqrt(a, mode); got != want || flags != wantFlags {
		t.Errorf("%s: Sqrt(%#x, %d) = %#x, flags %d; want %#x, flags %d", promise, a, mode, got, flags, want, wantFlags)
	}
}

// of is the number that the machine tells.
var of = math.Float64bits

// radicand is a number, and what is wanted of it in the directions 0 to 4.
type radicand struct {
	a    uint64
	want [5]uint64
}

func holdAll(t *testing.T, numbers []radicand, flags int) {
	t.Helper()
	for _, c := range numbers {
		for _, mode := range modes {
			hold(t, "P10.1", c.a, mode, c.want[direction(mode)], flags)
		}
	}
}

func TestExact(t *testing.T) {
	holdAll(t, []radicand{
		{of(4), all(of(2))}, // the chapter's example
		{of(1), all(of(1))}, {of(9), all(of(3))}, {of(16), all(of(4))}, {of(2.25), all(of(1.5))}, {of(0.25), all(of(0.5))}, {of(0x9p-100), all(of(0x3p-50))}, {of(1 << 52), all(of(1 << 26))}, {of(1 << 54), all(of(1 << 27))},
		{of((1<<26 - 1) * (1<<26 - 1)), all(of(1<<26 - 1))}, {of((1<<26 + 1) * (1<<26 + 1)), all(of(1<<26 + 1))}, {of(94906265 * 94906265), all(of(94906265))}, {of(94906265 * 94906265 * 0x1p-101 * 0x1p-1), all(of(94906265 * 0x1p-51))},
		// Of e 0, of one bit and of more; the least of e 1; the greatest power.
		{1, all(power(-537))}, {4, all(power(-536))}, {9, all(of(0x3p-537))}, {power(-1024), all(power(-512))}, {(1<<26 - 1) * (1<<26 - 1), all(of((1<<26 - 1) * 0x1p-537))}, {least, all(power(-511))}, {9 << 48, all(of(0x3p-513))}, {power(1022), all(power(511))}, {of(0x9p1020), all(of(0x3p510))},
	}, 0)
}

func TestInexact(t *testing.T) {
	two := power(1)
	root2, root3 := of(0x1.6a09e667f3bccp0), of(0x1.bb67ae8584caap0)
	holdAll(t, []radicand{
		// Even and odd exponents.
		{of(2), [5]uint64{root2 + 1, root2 + 1, root2, root2 + 1, root2}}, {of(8), [5]uint64{root2 + 1 + least, root2 + 1 + least, root2 + least, root2 + 1 + least, root2 + least}}, {of(0.5), [5]uint64{root2 + 1 - least, root2 + 1 - least, root2 - least, root2 + 1 - least, root2 - least}},
		{of(3), [5]uint64{root3, root3, root3, root3 + 1, root3}}, {of(12), [5]uint64{root3 + least, root3 + least, root3 + least, root3 + 1 + least, root3 + least}}, {of(0.75), [5]uint64{root3 - least, root3 - least, root3 - least, root3 + 1 - least, root3 - least}},
		// Just above squares, and just below.
		{one + 1, [5]uint64{one, one, one, one + 1, one}}, {one - 1, [5]uint64{one - 1, one - 1, one - 1, one, one - 1}}, {one + 2, [5]uint64{one + 1, one + 1, one, one + 1, one}}, {one - 2, [5]uint64{one - 1, one - 1, one - 2, one - 1, one - 2}}, {of(9) + 1, [5]uint64{of(3) + 1, of(3) + 1, of(3), of(3) + 1, of(3)}}, {of(9) - 1, [5]uint64{of(3) - 1, of(3) - 1, of(3) - 1, of(3), of(3) - 1}},
		{of(4) + 1, [5]uint64{two, two, two, two + 1, two}}, {of(4) - 1, [5]uint64{two - 1, two - 1, two - 1, two, two - 1}},
		// Below halfway and above it by the least that there is, the lower one
		// even, and odd; of both kinds of exponents.
		{one + 1, [5]uint64{one, one, one, one + 1, one}}, {one + 3, [5]uint64{one + 1, one + 1, one + 1, one + 2, one + 1}}, {power(2) - 1, [5]uint64{two - 1, two - 1, two - 1, two, two - 1}}, {power(2) - 3, [5]uint64{two - 2, two - 2, two - 2, two - 1, two - 2}},
		{one + 0xd407bb3641da5, [5]uint64{one + 0x5a24e31b39fa6, one + 0x5a24e31b39fa6, one + 0x5a24e31b39fa5, one + 0x5a24e31b39fa6, one + 0x5a24e31b39fa5}},
		{two + 0x5b95344972fe2, [5]uint64{one + 0xa5db1ce4c605b, one + 0xa5db1ce4c605b, one + 0xa5db1ce4c605a, one + 0xa5db1ce4c605b, one + 0xa5db1ce4c605a}},
		{one + 0x2b035c1197f48, [5]uint64{one + 0x14ac03ef7226d, one + 0x14ac03ef7226d, one + 0x14ac03ef7226c, one + 0x14ac03ef7226d, one + 0x14ac03ef7226c}},
		{one + 0xe99893042c2cb, [5]uint64{one + 0x62077061349ea, one + 0x62077061349ea, one + 0x62077061349e9, one + 0x62077061349ea, one + 0x62077061349e9}},
		{one + 0x256565cadcbf4, [5]uint64{one + 0x120f999e99374, one + 0x120f999e99374, one + 0x120f999e99374, one + 0x120f999e99375, one + 0x120f999e99374}},
		{two + 0x77483d37ce205, [5]uint64{one + 0xb657c6d214c37, one + 0xb657c6d214c37, one + 0xb657c6d214c37, one + 0xb657c6d214c38, one + 0xb657c6d214c37}},
		// Of e 0: no Underflow.
		{2, [5]uint64{root2 + 1 - 537*least, root2 + 1 - 537*least, root2 - 537*least, root2 + 1 - 537*least, root2 - 537*least}}, {3, [5]uint64{root3 - 537*least, root3 - 537*least, root3 - 537*least, root3 + 1 - 537*least, root3 - 537*least}},
		{power(-1023), [5]uint64{root2 + 1 - 512*least, root2 + 1 - 512*least, root2 - 512*least, root2 + 1 - 512*least, root2 - 512*least}}, {least - 1, [5]uint64{power(-511) - 1, power(-511) - 1, power(-511) - 2, power(-511) - 1, power(-511) - 2}}, {least + 1, [5]uint64{power(-511), power(-511), power(-511), power(-511) + 1, power(-511)}},
		// The greatest ones: no Overflow.
		{great, [5]uint64{power(512) - 1, power(512) - 1, power(512) - 1, power(512), power(512) - 1}}, {power(1023), [5]uint64{root2 + 1 + 511*least, root2 + 1 + 511*least, root2 + 511*least, root2 + 1 + 511*least, root2 + 511*least}},
	}, lost)
}

// P10.1: NaNs, zeros, infinite ones and what is below 0.
func TestNotAbove(t *testing.T) {
	for _, mode := range modes {
		hold(t, "P10.1", 0, mode, 0, 0)
		hold(t, "P10.1", sign, mode, sign, 0)
		hold(t, "P10.1", inf, mode, inf, 0)
		hold(t, "P10.1", sign|inf, mode, api.NaN, api.Invalid)
		for _, a := range edges() {
			if a&sign != 0 && !isNaN(a) && !isZero(a) {
				hold(t, "P10.1", a, mode, api.NaN, api.Invalid)
			}
		}
		for _, nan := range nans {
			hold(t, "P10.1", nan, mode, api.NaN, 0)
		}
	}
}

func TestEdges(t *testing.T) {
	for _, a := range edges() {
		for _, mode := range modes {
			want, flags := reference(a, mode)
			hold(t, "P10.1", a, mode, want, flags)
		}
	}
	// The edges of each exponent.
	for e := range uint64(2047) {
		for _, f := range []uint64{0, 1, 1 << 51, 1<<52 - 1} {
			mode := int(e+f) % 5
			want, flags := reference(e<<52|f, mode)
			hold(t, "P10.1", e<<52|f, mode, want, flags)
		}
	}
}

func TestSqrtAsSaid(t *testing.T) {
	s := source(1)
	for range 40000 {
		a, mode := s.number(), modes[s.below(len(modes))]
		if s.below(10) > 0 {
			a &^= sign
		}
		want, flags := reference(a, mode)
		hold(t, "P10.1", a, mode, want, flags)
		if t.Failed() {
			return
		}
	}
}

// In direction 0 as the machine takes them.
func TestSqrtAsTheMachine(t *testing.T) {
	s := source(2)
	for range 60000 {
		a := s.number()
		want := of(math.Sqrt(math.Float64frombits(a)))
		if isNaN(want) {
			want = api.NaN
		}
		if got, _ := Sqrt(a, api.NearEven); got != want {
			t.Fatalf("P10.1: Sqrt(%#x, 0) = %#x, want %#x", a, got, want)
		}
	}
}

// P10.1: whole numbers up to 2^26 squared, and the numbers next to these, in
// each direction: up and down they are told on the right side.
func TestWholeSquares(t *testing.T) {
	step := 1
	for n := 1; n <= 1<<26; n += step {
		if n > 1<<11 {
			step = 1 + n/200
		}
		holdSquare(t, n)
	}
	for n := 1<<26 - 300; n <= 1<<26; n++ {
		holdSquare(t, n)
	}
}

func holdSquare(t *testing.T, n int) {
	t.Helper()
	square, root := of(float64(n*n)), of(float64(n))
	for mode := range 5 {
		hold(t, "P10.1", square, mode, root, 0)
	}
	hold(t, "P10.1", square+1, api.ToZero, root, lost)
	hold(t, "P10.1", square+1, api.Down, root, lost)
	hold(t, "P10.1", square+1, api.Up, root+1, lost)
	hold(t, "P10.1", square-1, api.ToZero, root-1, lost)
	hold(t, "P10.1", square-1, api.Down, root-1, lost)
	hold(t, "P10.1", square-1, api.Up, root, lost)
}

// P10.2: the root of a square, in direction 0, is the number, where that square
// was exact.
func TestOfSquares(t *testing.T) {
	s, exact := source(3), 0
	for range 100000 {
		// At most 27 bits, so that squares are often exact.
		a := s.next()>>38<<26 | uint64(s.below(2047))<<52
		square, flags := fmul.Mul(a, a|s.next()&sign, api.NearEven)
		square &^= sign
		if flags != 0 || isInf(square) {
			continue
		}
		exact++
		hold(t, "P10.2", square, api.NearEven, a, 0)
		if t.Failed() {
			return
		}
	}
	if exact < 10000 {
		t.Fatalf("P10.2: only %d squares were exact", exact)
	}
}

// P10.3: nothing is kept: what was told once is told again, whatever was asked
// between.
func TestNothingIsKept(t *testing.T) {
	type answer struct {
		a     uint64
		flags int
	}
	ask := func() []answer {
		var out []answer
		s := source(4)
		for range 2000 {
			got, flags := Sqrt(s.number()&^sign, s.below(5))
			out = append(out, answer{got, flags})
		}
		return out
	}
	first := ask()
	for i, a := range ask() {
		if a != first[i] {
			t.Fatalf("P10.3: answer %d is %v, and was %v", i, a, first[i])
		}
	}
}
