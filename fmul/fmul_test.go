package fmul

import (
	"math"
	"math/big"
	"testing"

	"vernier/api"
)

// reference is the product as the chapter says it, of numbers that another
// program multiplies.
func reference(a, b uint64, mode int) (uint64, int) {
	neg := a&sign != b&sign
	switch {
	case isNaN(a) || isNaN(b):
		return api.NaN, 0
	case isZero(a) && isInf(b) || isInf(a) && isZero(b):
		return api.NaN, api.Invalid
	case isInf(a) || isInf(b):
		return signed(neg, inf), 0
	case isZero(a) || isZero(b):
		return signed(neg, 0), 0
	}
	product := new(big.Int).Mul(units(a), units(b))
	return rounded(neg, product.Abs(product), -2*1074, mode)
}

// scaled is a times 2^n as the chapter says it.
func scaled(a uint64, n int, mode int) (uint64, int) {
	switch {
	case isNaN(a):
		return api.NaN, 0
	case isInf(a) || isZero(a):
		return a, 0
	}
	n = min(max(n, -1<<13), 1<<13)
	v := units(a)
	return rounded(v.Sign() < 0, new(big.Int).Abs(v), -1074+n, mode)
}

// holdMul holds Mul's answer against the one that is wanted.
func holdMul(t *testing.T, promise string, a, b uint64, mode int, want uint64, wantFlags int) {
	t.Helper()
	if got, flags := Mul(a, b, mode); got != want || flags != wantFlags {
		t.Errorf("%s: Mul(%#x, %#x, %d) = %#x, flags %d; want %#x, flags %d", promise, a, b, mode, got, flags, want, wantFlags)
	}
}

// holdScale holds Scale's answer against the one that is wanted.
func holdScale(t *testing.T, a uint64, n int, mode int, want uint64, wantFlags int) {
	t.Helper()
	if got, flags := Scale(a, n, mode); got != want || flags != wantFlags {
		t.Errorf("P8.1: Scale(%#x, %d, %d) = %#x, flags %d; want %#x, flags %d", a, n, mode, got, flags, want, wantFlags)
	}
}

// product is two numbers above 0, and what is wanted of them in the directions
// 0 to 4.
type product struct {
	a, b  uint64
	want  [5]uint64
	flags [5]int
}

// hold holds Mul of them with all signs, in both orders and all directions.
func (c product) hold(t *testing.T) {
	t.Helper()
	for _, mode := range modes {
		for _, negA := range signs {
			for _, negB := range signs {
				a, b, d := signed(negA, c.a), signed(negB, c.b), direction(mode)
				if negA != negB {
					d = mirrored(d)
				}
				want := signed(negA != negB, c.want[d])
				holdMul(t, "P8.1", a, b, mode, want, c.flags[d])
				holdMul(t, "P8.2", b, a, mode, want, c.flags[d])
			}
		}
	}
}

// of is the number that the machine tells.
var of = math.Float64bits

func TestExact(t *testing.T) {
	for _, c := range []product{
		{of(3), of(3), all(of(9)), all(0)}, // the chapter's example
		{one, one, all(one), all(0)}, {one, of(3), all(of(3)), all(0)}, {one, great, all(great), all(0)}, {one, 1, all(uint64(1)), all(0)}, {one, least - 1, all(least - 1), all(0)}, {one, least, all(least), all(0)}, {one, one - 1, all(one - 1), all(0)},
		// Significands of one bit and of 53.
		{power(1), one + 1, all(power(1) + 1), all(0)}, {power(1), 2*least - 1, all(3*least - 1), all(0)}, {power(-1), great, all(great - least), all(0)}, {power(-1), power(-1), all(power(-2)), all(0)}, {power(511), power(512), all(power(1023)), all(0)}, {power(-511), power(-511), all(least), all(0)},
		{of(1<<27 - 1), of(1<<26 - 1), all(of(1<<53 - 1<<27 - 1<<26 + 1)), all(0)}, {of(5), of(1801439850948197), all(of(1<<53 - 7)), all(0)}, {of(94906265), of(94906265), all(of(9007199136250225)), all(0)},
		// Of e 0, by great ones and by small ones.
		{1, power(1), all(uint64(2)), all(0)}, {1, power(1023), all(power(-51)), all(0)}, {1, great, all(power(-50) - 1), all(0)}, {least - 1, power(1), all(2*least - 2), all(0)}, {least - 1, power(1023), all(of(0x1.ffffffffffffep0)), all(0)},
		{2, power(-1), all(uint64(1)), all(0)}, {3, of(3), all(uint64(9)), all(0)}, {power(-1074), power(52), all(least), all(0)}, {power(-1023), power(1), all(least), all(0)},
		// To numbers of e 0, without rounding.
		{least, power(-1), all(power(-1023)), all(0)}, {least, power(-52), all(uint64(1)), all(0)}, {least + 2, power(-1), all(power(-1023) + 1), all(0)}, {power(-537), power(-537), all(uint64(1)), all(0)}, {least, one + 1, all(least + 1), all(0)}, {least, one - 2, all(least - 1), all(0)}, {2*least - 2, power(-1), all(least - 1), all(0)},
	} {
		c.hold(t)
	}
}

func TestNearHalf(t *testing.T) {
	p, h, two := power(53), of(1.5), power(1)
	for _, c := range []product{
		// Halfway, the lower one even, and odd.
		{of(3), of(3002399751580331), [5]uint64{p, p + 1, p, p + 1, p}, all(lost)}, {of(5), of(1801439850948199), [5]uint64{p + 2, p + 2, p + 1, p + 2, p + 1}, all(lost)},
		{h, one + 3, [5]uint64{h + 4, h + 5, h + 4, h + 5, h + 4}, all(lost)}, {h, one + 1, [5]uint64{h + 2, h + 2, h + 1, h + 2, h + 1}, all(lost)},
		// Below halfway and above it by the least that there is.
		{one + 0x00005bfbb9089, one + 0xffffdd15ae5b9, [5]uint64{two + 0x00004a8689f09, two + 0x00004a8689f09, two + 0x00004a8689f08, two + 0x00004a8689f09, two + 0x00004a8689f08}, all(lost)},
		{one + 0x00005bfba2d69, one + 0xffffc84a932d9, [5]uint64{two + 0x000004020e26b4, two + 0x000004020e26b4, two + 0x000004020e26b3, two + 0x000004020e26b4, two + 0x000004020e26b3}, all(lost)},
		{one + 0x00005bfc8d07d, one + 0xffffa4e9cd72b, [5]uint64{two + 0x00002e716363c, two + 0x00002e716363c, two + 0x00002e716363c, two + 0x00002e716363d, two + 0x00002e716363c}, all(lost)},
		{one + 0x00005bfbb3aab, one + 0xffff532950ffd, [5]uint64{two + 0x000005903d1d7, two + 0x000005903d1d7, two + 0x000005903d1d7, two + 0x000005903d1d8, two + 0x000005903d1d7}, all(lost)},
		{one + 0x000000025ad0f, one + 0xdc0303f33a1ef, [5]uint64{one + 0xdc0303f79b029, one + 0xdc0303f79b029, one + 0xdc0303f79b028, one + 0xdc0303f79b029, one + 0xdc0303f79b028}, all(lost)},
		{one + 0x000000025ad0f, one + 0x23fcfc0cc5e11, [5]uint64{one + 0x23fcfc0f75704, one + 0x23fcfc0f75704, one + 0x23fcfc0f75704, one + 0x23fcfc0f75705, one + 0x23fcfc0f75704}, all(lost)},
		// Just above a number, and just below one.
		{one + 1, one + 1, [5]uint64{one + 2, one + 2, one + 2, one + 3, one + 2}, all(lost)}, {one - 1, one - 1, [5]uint64{one - 2, one - 2, one - 2, one - 1, one - 2}, all(lost)}, {one + 1, one - 1, [5]uint64{one, one, one, one + 1, one}, all(lost)}, {one + 1, one - 2, [5]uint64{one, one, one - 1, one, one - 1}, all(lost)},
		{two - 1, two - 1, [5]uint64{power(2) - 2, power(2) - 2, power(2) - 2, power(2) - 1, power(2) - 2}, all(lost)},
	} {
		c.hold(t)
	}
}

func TestSmall(t *testing.T) {
	small := [5]uint64{0, 0, 0, 1, 0}
	for _, c := range []product{
		// Below half of the smallest number, half of it, and above.
		{1, 1, small, all(tiny)}, {1, power(-2), small, all(tiny)}, {1, power(-1) - 1, small, all(tiny)}, {least - 1, least - 1, small, all(tiny)}, {least, least, small, all(tiny)}, {power(-600), power(-600), small, all(tiny)}, {power(-538), power(-538), small, all(tiny)}, {power(-538) - 1, power(-537), small, all(tiny)},
		{1, power(-1), [5]uint64{0, 1, 0, 1, 0}, all(tiny)}, {power(-538), power(-537), [5]uint64{0, 1, 0, 1, 0}, all(tiny)}, {power(-1022), power(-53), [5]uint64{0, 1, 0, 1, 0}, all(tiny)},
		{1, power(-1) + 1, [5]uint64{1, 1, 0, 1, 0}, all(tiny)}, {power(-538) + 1, power(-537), [5]uint64{1, 1, 0, 1, 0}, all(tiny)}, {3, power(-2), [5]uint64{1, 1, 0, 1, 0}, all(tiny)}, {1, one - 1, [5]uint64{1, 1, 0, 1, 0}, all(tiny)},
		// Between the smallest ones.
		{3, power(-1), [5]uint64{2, 2, 1, 2, 1}, all(tiny)}, {5, power(-1), [5]uint64{2, 3, 2, 3, 2}, all(tiny)}, {1, one + 1, [5]uint64{1, 1, 1, 2, 1}, all(tiny)}, {2, one - 1, [5]uint64{2, 2, 1, 2, 1}, all(tiny)}, {1, of(1.5), [5]uint64{2, 2, 1, 2, 1}, all(tiny)},
		{least + 1, power(-1), [5]uint64{power(-1023), power(-1023) + 1, power(-1023), power(-1023) + 1, power(-1023)}, all(tiny)}, {least + 3, power(-1), [5]uint64{power(-1023) + 2, power(-1023) + 2, power(-1023) + 1, power(-1023) + 2, power(-1023) + 1}, all(tiny)},
		// From below 2^-1022 to it: Underflow asks what was there ahead.
		{least, one - 1, [5]uint64{least, least, least - 1, least, least - 1}, all(tiny)}, {2*least - 1, power(-1), [5]uint64{least, least, least - 1, least, least - 1}, all(tiny)}, {least - 1, one + 1, [5]uint64{least, least, least - 1, least, least - 1}, all(tiny)},
		// 2^-1022 and above it: no Underflow.
		{least + 1, one - 1, [5]uint64{least, least, least, least + 1, least}, all(lost)}, {least - 1, one + 2, [5]uint64{least + 1, least + 1, least, least + 1, least}, all(lost)}, {least + 1, one + 1, [5]uint64{least + 2, least + 2, least + 2, least + 3, least + 2}, all(lost)},
	} {
		c.hold(t)
	}
}

func TestGreat(t *testing.T) {
	large := [5]uint64{inf, inf, great, inf, great}
	for _, c := range []product{
		// To 2^1024 from below: only where it is the rounded one, Overflow.
		{great - 1, one + 1, large, [5]int{over, over, lost, over, lost}}, {of(0x3p970), of(6004799503160661), large, [5]int{over, over, lost, over, lost}},
		{of(0x5p969), of(7205759403792793), [5]uint64{great, great, great, inf, great}, [5]int{lost, lost, lost, over, lost}},
		// 2^1024 itself, and above it.
		{power(512), power(512), large, all(over)}, {power(1023), power(1), large, all(over)}, {great, one + 1, large, all(over)}, {great, power(1), large, all(over)}, {great, great, large, all(over)}, {power(1023), of(3), large, all(over)}, {power(1023), power(1023), large, all(over)}, {great, of(1.5), large, all(over)},
	} {
		c.hold(t)
	}
}

// P8.1: zeros, infinite ones and NaNs, with all signs, in all directions.
func TestNotFinite(t *testing.T) {
	for _, mode := range modes {
		for _, a := range edges() {
			for _, nan := range nans {
				holdMul(t, "P8.1", a, nan, mode, api.NaN, 0)
				holdMul(t, "P8.1", nan, a, mode, api.NaN, 0)
			}
			for _, neg := range signs {
				unlike := (a&sign != 0) != neg
				zero, infinite := signed(neg, 0), signed(neg, inf)
				switch {
				case isNaN(a):
				case isInf(a):
					holdMul(t, "P8.1", a, zero, mode, api.NaN, api.Invalid)
					holdMul(t, "P8.1", zero, a, mode, api.NaN, api.Invalid)
					holdMul(t, "P8.1", a, infinite, mode, signed(unlike, inf), 0)
				case isZero(a):
					holdMul(t, "P8.1", a, infinite, mode, api.NaN, api.Invalid)
					holdMul(t, "P8.1", infinite, a, mode, api.NaN, api.Invalid)
					holdMul(t, "P8.1", a, zero, mode, signed(unlike, 0), 0)
				default:
					holdMul(t, "P8.1", a, zero, mode, signed(unlike, 0), 0)
					holdMul(t, "P8.1", zero, a, mode, signed(unlike, 0), 0)
					holdMul(t, "P8.1", a, infinite, mode, signed(unlike, inf), 0)
					holdMul(t, "P8.1", infinite, a, mode, signed(unlike, inf), 0)
				}
			}
		}
	}
}

func TestEdges(t *testing.T) {
	for _, mode := range modes {
		for _, a := range edges() {
			for _, b := range edges() {
				want, flags := reference(a, b, mode)
				holdMul(t, "P8.1", a, b, mode, want, flags)
			}
		}
	}
}

// pair makes two numbers; products at both ends come up often.
func (s *source) pair() (uint64, uint64) {
	a := s.number()
	end := 1023 // the e of b so that the product's is 1023, 0 or 2046
	switch s.below(4) {
	case 0:
		end = 2046 - int(a>>52&2047)
	case 1:
		end = 1023 - int(a>>52&2047)
	case 2:
		end = 3069 - int(a>>52&2047)
	}
	return a, s.near(uint64(min(max(end, 0), 2046))<<52, s.below(60))
}

func TestMulAsSaid(t *testing.T) {
	s := source(1)
	for range 60000 {
		a, b := s.pair()
		mode := modes[s.below(len(modes))]
		want, flags := reference(a, b, mode)
		holdMul(t, "P8.1", a, b, mode, want, flags)
		if t.Failed() {
			return
		}
	}
}

// In direction 0 as the machine multiplies them.
func TestMulAsTheMachine(t *testing.T) {
	s := source(2)
	for range 200000 {
		a, b := s.pair()
		want := of(math.Float64frombits(a) * math.Float64frombits(b))
		if isNaN(want) {
			want = api.NaN
		}
		if got, _ := Mul(a, b, api.NearEven); got != want {
			t.Fatalf("P8.1: Mul(%#x, %#x, 0) = %#x, want %#x", a, b, got, want)
		}
	}
}

// P8.2: in any order a product is the same.
func TestOrder(t *testing.T) {
	s, e := source(3), edges()
	for i := range 100000 {
		a, b := s.pair()
		if i%10 == 0 {
			a, b = e[s.below(len(e))], e[s.below(len(e))]
		}
		mode := modes[s.below(len(modes))]
		got, flags := Mul(a, b, mode)
		turned, turnedFlags := Mul(b, a, mode)
		if got != turned || flags != turnedFlags {
			t.Fatalf("P8.2: Mul(%#x, %#x, %d) = %#x, flags %d; turned %#x, flags %d", a, b, mode, got, flags, turned, turnedFlags)
		}
	}
}

func TestScaleWrittenOut(t *testing.T) {
	small, large := [5]uint64{0, 0, 0, 1, 0}, [5]uint64{inf, inf, great, inf, great}
	half := power(-1023)
	for _, c := range []struct {
		a     uint64
		n     int
		want  [5]uint64
		flags [5]int
	}{
		{of(3), 0, all(of(3)), all(0)}, {of(3), 1, all(of(6)), all(0)}, {of(3), -1, all(of(1.5)), all(0)}, {great, 0, all(great), all(0)}, {1, 0, all(uint64(1)), all(0)}, {least, 0, all(least), all(0)}, {one, 1023, all(power(1023)), all(0)}, {great, -1, all(great - least), all(0)},
		{1, 1, all(uint64(2)), all(0)}, {1, 1074, all(one), all(0)}, {1, 2097, all(power(1023)), all(0)}, {least - 1, 1, all(2*least - 2), all(0)}, {least - 1, 2046, all(great - 1), all(0)}, {3, 1074, all(of(3)), all(0)},
		// Below 2^-1022 without rounding.
		{one, -1022, all(least), all(0)}, {one, -1023, all(half), all(0)}, {one, -1074, all(uint64(1)), all(0)}, {of(3), -1074, all(uint64(3)), all(0)}, {least, -1, all(half), all(0)}, {least, -52, all(uint64(1)), all(0)}, {2, -1, all(uint64(1)), all(0)}, {power(1023), -2097, all(uint64(1)), all(0)}, {least + 2, -1, all(half + 1), all(0)},
		// And with it.
		{one + 1, -1023, [5]uint64{half, half + 1, half, half + 1, half}, all(tiny)}, {one + 3, -1023, [5]uint64{half + 2, half + 2, half + 1, half + 2, half + 1}, all(tiny)}, {one - 1, -1022, [5]uint64{least, least, least - 1, least, least - 1}, all(tiny)}, {2*least - 1, -1, [5]uint64{least, least, least - 1, least, least - 1}, all(tiny)},
		{great, -2097, [5]uint64{2, 2, 1, 2, 1}, all(tiny)}, {great, -2098, [5]uint64{1, 1, 0, 1, 0}, all(tiny)}, {great, -2099, small, all(tiny)}, {power(1023), -2098, [5]uint64{0, 1, 0, 1, 0}, all(tiny)}, {power(1023) + 1, -2098, [5]uint64{1, 1, 0, 1, 0}, all(tiny)}, {power(1023), -2099, small, all(tiny)},
		{1, -1, [5]uint64{0, 1, 0, 1, 0}, all(tiny)}, {1, -2, small, all(tiny)}, {3, -1, [5]uint64{2, 2, 1, 2, 1}, all(tiny)}, {5, -1, [5]uint64{2, 3, 2, 3, 2}, all(tiny)}, {3, -2, [5]uint64{1, 1, 0, 1, 0}, all(tiny)}, {one, -1075, [5]uint64{0, 1, 0, 1, 0}, all(tiny)}, {one, -1076, small, all(tiny)},
		// 2^1024 and above it.
		{one, 1024, large, all(over)}, {great, 1, large, all(over)}, {1, 2098, large, all(over)}, {least - 1, 2047, large, all(over)}, {power(1023), 1, large, all(over)}, {great, 2000, large, all(over)},
		// At the limits of n, and beyond.
		{one, 1 << 13, large, all(over)}, {one, -1 << 13, small, all(tiny)}, {1, 1 << 13, large, all(over)}, {great, -1 << 13, small, all(tiny)}, {1, 1<<13 + 1, large, all(over)}, {great, -1<<13 - 1, small, all(tiny)}, {1, 1 << 20, large, all(over)}, {great, -1 << 20, small, all(tiny)},
		{1, 1 << 40, large, all(over)}, {great, -1 << 40, small, all(tiny)}, {1, math.MaxInt, large, all(over)}, {one, math.MaxInt, large, all(over)}, {great, math.MaxInt, large, all(over)}, {great, math.MinInt, small, all(tiny)}, {one, math.MinInt, small, all(tiny)}, {1, math.MinInt, small, all(tiny)},
	} {
		for _, mode := range modes {
			d := direction(mode)
			holdScale(t, c.a, c.n, mode, c.want[d], c.flags[d])
			d = mirrored(d)
			holdScale(t, c.a|sign, c.n, mode, c.want[d]|sign, c.flags[d])
		}
	}
}

// P8.1: others than finite ones are themselves, whatever n is.
func TestScaleNotFinite(t *testing.T) {
	for _, mode := range modes {
		for _, n := range []int{0, 1, -1, 1000, -1000, 1 << 13, -1 << 13, math.MaxInt, math.MinInt} {
			for _, a := range []uint64{0, sign, inf, sign | inf} {
				holdScale(t, a, n, mode, a, 0)
			}
			for _, nan := range nans {
				holdScale(t, nan, n, mode, api.NaN, 0)
			}
		}
	}
}

func TestScaleAsSaid(t *testing.T) {
	s := source(4)
	for i := range 60000 {
		a, n, mode := s.number(), s.below(4400)-2200, modes[s.below(len(modes))]
		switch i % 4 {
		case 0:
			n = s.below(120) - 60 - int(a>>52&2047)
		case 1:
			n = s.below(120) - 60 + 2047 - int(a>>52&2047)
		}
		want, flags := scaled(a, n, mode)
		holdScale(t, a, n, mode, want, flags)
		if t.Failed() {
			return
		}
	}
}

// P8.3: nothing is kept: what was told once is told again, whatever was asked
// between.
func TestNothingIsKept(t *testing.T) {
	type answer struct {
		a     uint64
		flags int
	}
	ask := func() []answer {
		var out []answer
		s := source(5)
		for range 2000 {
			a, b := s.pair()
			mode := s.below(5)
			product, flags := Mul(a, b, mode)
			scaled, more := Scale(a, int(b%4000)-2000, mode)
			out = append(out, answer{product, flags}, answer{scaled, more})
		}
		return out
	}
	first := ask()
	for i, a := range ask() {
		if a != first[i] {
			t.Fatalf("P8.3: answer %d is %v, and was %v", i, a, first[i])
		}
	}
}
