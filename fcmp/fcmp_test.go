package fcmp

import (
	"math"
	"slices"
	"testing"

	"vernier/api"
)

// ascending are numbers from the least on; both zeros stand side by side.
func ascending() []uint64 {
	above := []uint64{
		1, 2, 1 << 51, least - 2, least - 1, least, least + 1, 2*least - 1, 2 * least, 2*least + 1, power(-500), one - 2, one - 1, one, one + 1, one + 2, power(1) - 1, power(1), power(1) + 1, power(52), power(53), power(1023) - 1, power(1023), great - 1, great, inf,
	}
	out := []uint64{sign, 0}
	for _, a := range above {
		out = append(out, a)
		out = slices.Insert(out, 0, a|sign)
	}
	return out
}

// holdCmp holds Cmp's and Less's answers against the ones that are wanted.
func holdCmp(t *testing.T, a, b uint64, want int, wantOK bool) {
	t.Helper()
	if got, ok := Cmp(a, b); got != want || ok != wantOK {
		t.Errorf("P12.1: Cmp(%#x, %#x) = %d, %v; want %d, %v", a, b, got, ok, want, wantOK)
	}
	if got := Less(a, b); got != (want < 0) {
		t.Errorf("P12.1: Less(%#x, %#x) = %v", a, b, got)
	}
}

func TestCmp(t *testing.T) {
	holdCmp(t, 0, sign, 0, true) // the chapter's example
	numbers := ascending()
	for i, a := range numbers {
		for j, b := range numbers {
			want := 1
			switch {
			case i == j || isZero(a) && isZero(b):
				want = 0
			case i < j:
				want = -1
			}
			holdCmp(t, a, b, want, true)
		}
	}
}

// P12.1: both zeros are one, in all pairs.
func TestCmpZeros(t *testing.T) {
	for _, a := range []uint64{0, sign} {
		for _, b := range []uint64{0, sign} {
			holdCmp(t, a, b, 0, true)
		}
		holdCmp(t, a, 1, -1, true)
		holdCmp(t, 1, a, 1, true)
		holdCmp(t, a, sign|1, 1, true)
		holdCmp(t, sign|1, a, -1, true)
	}
}

// P12.1, P4: where one is NaN, 0 and false.
func TestCmpNaN(t *testing.T) {
	for _, nan := range nans {
		for _, a := range edges() {
			holdCmp(t, a, nan, 0, false)
			holdCmp(t, nan, a, 0, false)
		}
	}
}

// P12.1: numbers that differ in the last bit alone.
func TestCmpNeighbours(t *testing.T) {
	s := source(1)
	for range 20000 {
		a := s.number()
		if isNaN(a) || isNaN(a+1) || isInf(a) {
			continue
		}
		want := -1
		if a&sign != 0 {
			want = 1
		}
		holdCmp(t, a, a, 0, true)
		holdCmp(t, a, a+1, want, true)
		holdCmp(t, a+1, a, -want, true)
	}
}

// As the machine holds them against each other.
func TestCmpAsTheMachine(t *testing.T) {
	s := source(2)
	for i := range 100000 {
		a, b := s.number(), s.number()
		switch i % 4 {
		case 0:
			b = s.near(a, 1)
		case 1:
			b = a ^ uint64(s.below(4)) ^ s.next()&sign
		}
		x, y := math.Float64frombits(a), math.Float64frombits(b)
		switch {
		case x < y:
			holdCmp(t, a, b, -1, true)
		case x > y:
			holdCmp(t, a, b, 1, true)
		default:
			holdCmp(t, a, b, 0, x == y)
		}
		if t.Failed() {
			return
		}
	}
}

// call is one of the functions of one number.
type call struct {
	name string
	of   func(uint64) uint64
}

func (c call) hold(t *testing.T, promise string, a, want uint64) {
	t.Helper()
	if got := c.of(a); got != want {
		t.Errorf("%s: %s(%#x) = %#x, want %#x", promise, c.name, a, got, want)
	}
}

var (
	callAbs  = call{"Abs", Abs}
	callNeg  = call{"Neg", Neg}
	callNext = call{"Next", Next}
	callPrev = call{"Prev", Prev}
)

func TestAbsAndNeg(t *testing.T) {
	for _, a := range edges() {
		if isNaN(a) {
			continue
		}
		callAbs.hold(t, "P12.1", a, a&(1<<63-1))
		callNeg.hold(t, "P12.1", a, a+1<<63)
	}
	callAbs.hold(t, "P12.1", sign, 0)
	callNeg.hold(t, "P12.1", 0, sign)
	callNeg.hold(t, "P12.1", sign, 0)
	callAbs.hold(t, "P12.1", sign|inf, inf)
	callNeg.hold(t, "P12.1", inf, sign|inf)
}

// P12.1: of any NaN the one that is told.
func TestOfNaN(t *testing.T) {
	for _, nan := range nans {
		for _, c := range []call{callAbs, callNeg, callNext, callPrev} {
			c.hold(t, "P12.1", nan, api.NaN)
		}
	}
}

func TestNextAndPrev(t *testing.T) {
	for _, c := range []struct{ a, next, prev uint64 }{
		// Around zeros.
		{0, 1, sign | 1}, {sign, 1, sign | 1}, {1, 2, 0}, {sign | 1, sign, sign | 2}, {2, 3, 1}, {sign | 2, sign | 1, sign | 3},
		// Around 2^-1022.
		{least - 1, least, least - 2}, {least, least + 1, least - 1}, {least + 1, least + 2, least}, {sign | (least - 1), sign | (least - 2), sign | least}, {sign | least, sign | (least - 1), sign | (least + 1)},
		// Around powers of two.
		{one, one + 1, one - 1}, {one - 1, one, one - 2}, {one + 1, one + 2, one}, {sign | one, sign | (one - 1), sign | (one + 1)}, {sign | (one - 1), sign | (one - 2), sign | one}, {power(53), power(53) + 1, power(53) - 1}, {2*least - 1, 2 * least, 2*least - 2}, {2 * least, 2*least + 1, 2*least - 1}, {power(-1000) - 1, power(-1000), power(-1000) - 2},
		// Around the greatest ones.
		{great - 1, great, great - 2}, {great, inf, great - 1}, {inf, inf, great}, {sign | (great - 1), sign | (great - 2), sign | great}, {sign | great, sign | (great - 1), sign | inf}, {sign | inf, sign | great, sign | inf},
	} {
		callNext.hold(t, "P12.1", c.a, c.next)
		callPrev.hold(t, "P12.1", c.a, c.prev)
	}
}

func TestNextAsTheMachine(t *testing.T) {
	s := source(3)
	for range 60000 {
		a := s.number()
		if isNaN(a) {
			continue
		}
		v := math.Float64frombits(a)
		callNext.hold(t, "P12.1", a, math.Float64bits(math.Nextafter(v, math.Inf(1))))
		callPrev.hold(t, "P12.1", a, math.Float64bits(math.Nextafter(v, math.Inf(-1))))
	}
}

// P12.1: nothing is between a number and the next one.
func TestNextIsTheLeastAbove(t *testing.T) {
	numbers := ascending()
	for i, a := range numbers {
		for _, b := range numbers[i+1:] {
			if isZero(a) && isZero(b) {
				continue
			}
			if Less(b, Next(a)) || !Less(a, Next(a)) {
				t.Errorf("P12.1: Next(%#x) = %#x, not the least above it", a, Next(a))
			}
			if Less(Prev(b), a) || !Less(Prev(b), b) {
				t.Errorf("P12.1: Prev(%#x) = %#x, not the greatest below it", b, Prev(b))
			}
		}
	}
}

// P12.2: Prev of Next is the number, but for zeros' signs, and infinite ones.
func TestPrevOfNext(t *testing.T) {
	hold := func(a uint64) {
		t.Helper()
		got := Prev(Next(a))
		switch {
		case isNaN(a) || isInf(a):
		case isZero(a):
			if !isZero(got) {
				t.Errorf("P12.2: Prev(Next(%#x)) = %#x", a, got)
			}
		case got != a || Next(Prev(a)) != a:
			t.Errorf("P12.2: Prev(Next(%#x)) = %#x, and Next(Prev) %#x", a, got, Next(Prev(a)))
		}
	}
	for _, a := range edges() {
		hold(a)
	}
	s := source(4)
	for range 60000 {
		hold(s.number())
	}
}

// holdMax holds Max's answer against the one that is wanted.
func holdMax(t *testing.T, want uint64, l ...uint64) {
	t.Helper()
	if got := Max(l...); got != want {
		t.Errorf("P12.1: Max(%#x) = %#x, want %#x", l, got, want)
	}
}

func TestMax(t *testing.T) {
	holdMax(t, 0)
	holdMax(t, 0, []uint64{}...)
	holdMax(t, 0, 0)
	holdMax(t, 0, sign)
	holdMax(t, 0, sign, sign, 0)
	holdMax(t, one, one)
	holdMax(t, one, sign|one)
	holdMax(t, 1, sign, sign|1)
	holdMax(t, power(1), sign|one, sign|power(1), sign|(power(1)-1))
	holdMax(t, power(1), one, sign|power(1), power(1)-1)
	holdMax(t, one+1, one+1, one, one-1)
	holdMax(t, one+1, one-1, one, one+1)
	holdMax(t, one+1, one, sign|(one+1), one)
	holdMax(t, least, least-1, sign|least, 1)
	holdMax(t, great, great, great-1, sign|great)
	holdMax(t, inf, inf)
	holdMax(t, inf, sign|inf)
	holdMax(t, inf, one, sign|inf, great)
	holdMax(t, inf, inf, one)
}

// P12.1: NaN, if one is, at whatever place.
func TestMaxNaN(t *testing.T) {
	for _, nan := range nans {
		holdMax(t, api.NaN, nan)
		holdMax(t, api.NaN, nan, one, inf)
		holdMax(t, api.NaN, one, nan, inf)
		holdMax(t, api.NaN, inf, sign, nan)
		holdMax(t, api.NaN, nan, nan, nan)
	}
}

func TestMaxAsTheMachine(t *testing.T) {
	s := source(5)
	for range 5000 {
		l, want := make([]uint64, s.below(9)), 0.0
		for i := range l {
			l[i] = s.number()
			want = math.Max(want, math.Abs(math.Float64frombits(l[i])))
		}
		bits := math.Float64bits(want)
		if slices.ContainsFunc(l, isNaN) {
			bits = api.NaN
		}
		holdMax(t, bits, l...)
	}
}

// P12.3: what is handed in stays as it is, up to its capacity, and isn't kept.
func TestMaxLeavesItsList(t *testing.T) {
	s := source(6)
	for range 2000 {
		words := make([]uint64, 3+s.below(6))
		for i := range words {
			words[i] = s.number()
		}
		l, kept := words[:len(words)-3], slices.Clone(words)
		got := Max(l...)
		if !slices.Equal(words, kept) {
			t.Fatalf("P12.3: Max changes %#x", kept)
		}
		// Other numbers in the same memory, and the first ones in another: each
		// is told as if nothing had been ahead.
		for i := range words {
			words[i] = sign | 1
		}
		holdMax(t, uint64(min(len(l), 1)), l...)
		holdMax(t, got, kept[:len(l)]...)
	}
}
