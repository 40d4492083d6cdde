package fdiv

import (
	"math"
	"math/big"
	"testing"

	"vernier/api"
)

// reference is the quotient as the chapter says it, of numbers that another
// program divides.
func reference(a, b uint64, mode int) (uint64, int) {
	neg := a&sign != b&sign
	switch {
	case isNaN(a) || isNaN(b):
		return api.NaN, 0
	case isZero(a) && isZero(b) || isInf(a) && isInf(b):
		return api.NaN, api.Invalid
	case isInf(a):
		return signed(neg, inf), 0
	case isZero(b):
		return signed(neg, inf), api.DivZero
	case isZero(a) || isInf(b):
		return signed(neg, 0), 0
	}
	// 200 bits or more, and a last one for what is below them.
	num, den := new(big.Int).Abs(units(a)), new(big.Int).Abs(units(b))
	shift := 200 + max(0, den.BitLen()-num.BitLen())
	quotient, rest := new(big.Int).QuoRem(num.Lsh(num, uint(shift)), den, new(big.Int))
	quotient.Lsh(quotient, 1)
	if rest.Sign() != 0 {
		quotient.Add(quotient, big.NewInt(1))
	}
	return rounded(neg, quotient, -shift-1, mode)
}

// holdDiv holds Div's answer against the one that is wanted.
func holdDiv(t *testing.T, a, b uint64, mode int, want uint64, wantFlags int) {
	t.Helper()
	if got, flags := Div(a, b, mode); got != want || flags != wantFlags {
		t.Errorf("P9.1: Div(%#x, %#x, %d) = %#x, flags %d; want %#x, flags %d", a, b, mode, got, flags, want, wantFlags)
	}
}

// holdInverse holds Inverse's answer against the one that is wanted.
func holdInverse(t *testing.T, a uint64, mode int, want uint64, wantFlags int) {
	t.Helper()
	if got, flags := Inverse(a, mode); got != want || flags != wantFlags {
		t.Errorf("P9.1: Inverse(%#x, %d) = %#x, flags %d; want %#x, flags %d", a, mode, got, flags, want, wantFlags)
	}
}

// quotient is two numbers above 0, and what is wanted of them in the directions
// 0 to 4.
type quotient struct {
	a, b  uint64
	want  [5]uint64
	flags [5]int
}

// hold holds Div of them with all signs, in all directions, and Inverse, if a
// is 1.
func (c quotient) hold(t *testing.T) {
	t.Helper()
	for _, mode := range modes {
		for _, negA := range signs {
			for _, negB := range signs {
				d := direction(mode)
				if negA != negB {
					d = mirrored(d)
				}
				a, b, want := signed(negA, c.a), signed(negB, c.b), signed(negA != negB, c.want[d])
				holdDiv(t, a, b, mode, want, c.flags[d])
				if a == one {
					holdInverse(t, b, mode, want, c.flags[d])
				}
			}
		}
	}
}

// of is the number that the machine tells.
var of = math.Float64bits

func TestExact(t *testing.T) {
	for _, c := range []quotient{
		{one, power(1), all(power(-1)), all(0)}, // the chapter's example
		{of(9), of(3), all(of(3)), all(0)}, {of(3), of(2), all(of(1.5)), all(0)}, {of(21), of(1.5), all(of(14)), all(0)}, {of(1<<53 - 1), of(6361), all(of(1416003655831)), all(0)}, {of(1<<53 - 1), of(1416003655831), all(of(6361)), all(0)},
		// As great as the divisor.
		{one, one, all(one), all(0)}, {great, great, all(one), all(0)}, {1, 1, all(one), all(0)}, {least - 1, least - 1, all(one), all(0)}, {least, least, all(one), all(0)}, {one + 1, one + 1, all(one), all(0)}, {of(1.5), of(3), all(power(-1)), all(0)},
		// By significands of one bit.
		{great, one, all(great), all(0)}, {1, one, all(uint64(1)), all(0)}, {least - 1, one, all(least - 1), all(0)}, {one - 1, one, all(one - 1), all(0)}, {great, power(1), all(great - least), all(0)}, {great, power(1023), all(power(1) - 1), all(0)}, {one + 1, power(-1022), all(power(1022) + 1), all(0)}, {power(1023), power(1), all(power(1022)), all(0)},
		// Numbers of e 0 above the line, and below it.
		{1, 2, all(power(-1)), all(0)}, {2, 1, all(power(1)), all(0)}, {6, 3, all(power(1)), all(0)}, {1, power(-1023), all(power(-51)), all(0)}, {1, power(-1074), all(one), all(0)}, {power(-51), 1, all(power(1023)), all(0)}, {of(0x3p-51), 3, all(power(1023)), all(0)}, {least, 1, all(power(52)), all(0)}, {least - 1, 1, all(of(1<<52 - 1)), all(0)}, {2*least - 1, 1, all(of(1<<53 - 1)), all(0)},
		{1, power(52), [5]uint64{0, 0, 0, 1, 0}, all(tiny)}, {1, power(-1), all(uint64(2)), all(0)}, {3, of(1.5), all(uint64(2)), all(0)}, {9, of(3), all(uint64(3)), all(0)}, {least - 1, one - 2, all(least), all(0)}, {least + 1, one + 1, all(least), all(0)},
		// To numbers of e 0, without rounding.
		{least, power(1), all(power(-1023)), all(0)}, {least, power(52), all(uint64(1)), all(0)}, {2*least - 2, power(1), all(least - 1), all(0)}, {power(-500), power(574), all(uint64(1)), all(0)}, {one, power(1023), all(power(-1023)), all(0)}, {power(-51), power(1023), all(uint64(1)), all(0)}, {of(3), power(1023), all(of(0x3p-1023)), all(0)},
		// To the greatest ones.
		{one, power(-1023), all(power(1023)), all(0)}, {one, least, all(power(1022)), all(0)}, {great - least, power(-1), all(great), all(0)}, {of(0x1.fffffffffffffp-51), 1, all(great), all(0)},
	} {
		c.hold(t)
	}
}

func TestNearHalf(t *testing.T) {
	third := of(0x1.5555555555555p-2)
	half := power(-1)
	for _, c := range []quotient{
		{one, of(3), [5]uint64{third, third, third, third + 1, third}, all(lost)}, {power(1), of(3), [5]uint64{third + least, third + least, third + least, third + least + 1, third + least}, all(lost)},
		{one, of(5), [5]uint64{of(0.2), of(0.2), of(0.2) - 1, of(0.2), of(0.2) - 1}, all(lost)}, {one, of(7), [5]uint64{of(1.0 / 7), of(1.0 / 7), of(1.0 / 7), of(1.0/7) + 1, of(1.0 / 7)}, all(lost)}, {of(3), one + 1, [5]uint64{of(3) - 1, of(3) - 1, of(3) - 2, of(3) - 1, of(3) - 2}, all(lost)},
		// Above halfway and below it by the least that there is, the lower one
		// even, and odd; the dividend's significand less than the divisor's.
		{one + 0x2b6425e4df4ef, one + 0xca264269e0d37, [5]uint64{half + 0x4e94d841563bd, half + 0x4e94d841563bd, half + 0x4e94d841563bc, half + 0x4e94d841563bd, half + 0x4e94d841563bc}, all(lost)},
		{one + 0x15207a2dc6f7b, one + 0x6dece81e74ef5, [5]uint64{half + 0x83c0f61a6c952, half + 0x83c0f61a6c952, half + 0x83c0f61a6c951, half + 0x83c0f61a6c952, half + 0x83c0f61a6c951}, all(lost)},
		{one + 0x725e786a6b397, one + 0xb92157403e431, [5]uint64{half + 0xaddee2bca7a68, half + 0xaddee2bca7a68, half + 0xaddee2bca7a68, half + 0xaddee2bca7a69, half + 0xaddee2bca7a68}, all(lost)},
		{one + 0x0a7bfb3119320, one + 0xd7e8d7d2caf83, [5]uint64{half + 0x211f85339ab95, half + 0x211f85339ab95, half + 0x211f85339ab95, half + 0x211f85339ab96, half + 0x211f85339ab95}, all(lost)},
		// The same with the dividend's greater.
		{one + 0xe109159c9a644, one + 0x2334e74c9df6b, [5]uint64{one + 0xa6e0f0e85d55f, one + 0xa6e0f0e85d55f, one + 0xa6e0f0e85d55e, one + 0xa6e0f0e85d55f, one + 0xa6e0f0e85d55e}, all(lost)},
		{one + 0x7a5903ceb280e, one + 0x6fb8e0f17a301, [5]uint64{one + 0x0765b2c275180, one + 0x0765b2c275180, one + 0x0765b2c27517f, one + 0x0765b2c275180, one + 0x0765b2c27517f}, all(lost)},
		{one + 0xcf3ce61482d6f, one + 0x8e40e8ca81811, [5]uint64{one + 0x29c5b92a1ec78, one + 0x29c5b92a1ec78, one + 0x29c5b92a1ec78, one + 0x29c5b92a1ec79, one + 0x29c5b92a1ec78}, all(lost)},
		{one + 0x47d5a2ff2e456, one + 0x062d23bbbe9eb, [5]uint64{one + 0x401c8627ffb61, one + 0x401c8627ffb61, one + 0x401c8627ffb61, one + 0x401c8627ffb62, one + 0x401c8627ffb61}, all(lost)},
		// About 1, with significands of 53 bits.
		{one, one - 1, [5]uint64{one + 1, one + 1, one, one + 1, one}, all(lost)}, {one, one + 1, [5]uint64{one - 2, one - 2, one - 2, one - 1, one - 2}, all(lost)}, {one + 1, one - 1, [5]uint64{one + 2, one + 2, one + 1, one + 2, one + 1}, all(lost)}, {one - 1, one + 1, [5]uint64{one - 3, one - 3, one - 3, one - 2, one - 3}, all(lost)},
		{one - 2, one - 1, [5]uint64{one - 1, one - 1, one - 2, one - 1, one - 2}, all(lost)}, {one + 2, one + 1, [5]uint64{one + 1, one + 1, one, one + 1, one}, all(lost)},
	} {
		c.hold(t)
	}
}

func TestSmall(t *testing.T) {
	small, half := [5]uint64{0, 0, 0, 1, 0}, power(-1023)
	for _, c := range []quotient{
		// Below half of the smallest number, half of it, and above.
		{1, power(2), small, all(tiny)}, {1, of(3), small, all(tiny)}, {1, great, small, all(tiny)}, {1, power(1) + 1, small, all(tiny)}, {least, great, small, all(tiny)}, {power(-600), power(600), small, all(tiny)}, {power(-500) - 1, power(575), small, all(tiny)}, {power(-500), power(575) + 1, small, all(tiny)}, {power(-52), great, small, all(tiny)},
		{1, power(1), [5]uint64{0, 1, 0, 1, 0}, all(tiny)}, {power(-500), power(575), [5]uint64{0, 1, 0, 1, 0}, all(tiny)}, {least, power(53), [5]uint64{0, 1, 0, 1, 0}, all(tiny)}, {power(-52), power(1023), [5]uint64{0, 1, 0, 1, 0}, all(tiny)},
		{1, power(1) - 1, [5]uint64{1, 1, 0, 1, 0}, all(tiny)}, {3, power(2), [5]uint64{1, 1, 0, 1, 0}, all(tiny)}, {2, of(3), [5]uint64{1, 1, 0, 1, 0}, all(tiny)}, {power(-500) + 1, power(575), [5]uint64{1, 1, 0, 1, 0}, all(tiny)}, {power(-500), power(575) - 1, [5]uint64{1, 1, 0, 1, 0}, all(tiny)}, {1, one + 1, [5]uint64{1, 1, 0, 1, 0}, all(tiny)},
		// Between the smallest ones.
		{3, power(1), [5]uint64{2, 2, 1, 2, 1}, all(tiny)}, {5, power(1), [5]uint64{2, 3, 2, 3, 2}, all(tiny)}, {1, one - 1, [5]uint64{1, 1, 1, 2, 1}, all(tiny)}, {4, of(3), [5]uint64{1, 1, 1, 2, 1}, all(tiny)}, {5, of(3), [5]uint64{2, 2, 1, 2, 1}, all(tiny)}, {1, of(0.75), [5]uint64{1, 1, 1, 2, 1}, all(tiny)},
		{least + 1, power(1), [5]uint64{half, half + 1, half, half + 1, half}, all(tiny)}, {least + 3, power(1), [5]uint64{half + 2, half + 2, half + 1, half + 2, half + 1}, all(tiny)},
		{least, one + 1, [5]uint64{least - 1, least - 1, least - 1, least, least - 1}, all(tiny)}, {least + 1, one + 2, [5]uint64{least - 1, least - 1, least - 1, least, least - 1}, all(tiny)}, {least - 1, one - 1, [5]uint64{least - 1, least - 1, least - 1, least, least - 1}, all(tiny)},
		// From below 2^-1022 to it: Underflow asks what was there ahead.
		{2*least - 1, power(1), [5]uint64{least, least, least - 1, least, least - 1}, all(tiny)}, {power(1) - 1, power(1023), [5]uint64{least, least, least - 1, least, least - 1}, all(tiny)},
		// Above 2^-1022: no Underflow.
		{least, one - 1, [5]uint64{least + 1, least + 1, least, least + 1, least}, all(lost)}, {least + 2, one + 1, [5]uint64{least + 1, least + 1, least, least + 1, least}, all(lost)},
	} {
		c.hold(t)
	}
}

func TestGreat(t *testing.T) {
	large := [5]uint64{inf, inf, great, inf, great}
	for _, c := range []quotient{
		// Below 2^1024 they come as near to it as the greatest number alone.
		{great, one, all(great), all(0)}, {great - 1, one - 1, [5]uint64{great, great, great - 1, great, great - 1}, all(lost)}, {great, one + 1, [5]uint64{great - 2, great - 2, great - 2, great - 1, great - 2}, all(lost)}, {great, power(1) - 1, all(power(1023)), all(0)},
		// 2^1024, and above it.
		{great, one - 1, large, all(over)}, {power(1023), power(-1), large, all(over)}, {great, one - 2, large, all(over)}, {great, power(-1), large, all(over)}, {power(1023), one - 1, [5]uint64{power(1023) + 1, power(1023) + 1, power(1023), power(1023) + 1, power(1023)}, all(lost)}, {power(1023), power(-1) - 1, large, all(over)},
		{great, 1, large, all(over)}, {great, least - 1, large, all(over)}, {great, least, large, all(over)}, {power(600), power(-600), large, all(over)}, {one, 1, large, all(over)}, {least, least - 1, [5]uint64{one + 1, one + 1, one + 1, one + 2, one + 1}, all(lost)}, {power(-50), 1, large, all(over)}, {power(500), power(-524), large, all(over)},
	} {
		c.hold(t)
	}
}

// P9.1: of 1 by others.
func TestInverse(t *testing.T) {
	large, low := [5]uint64{inf, inf, great, inf, great}, power(-1024)
	for _, c := range []quotient{
		{one, one, all(one), all(0)}, {one, power(1), all(power(-1)), all(0)}, {one, power(-1), all(power(1)), all(0)}, {one, of(0.75), [5]uint64{of(0x1.5555555555555p0), of(0x1.5555555555555p0), of(0x1.5555555555555p0), of(0x1.5555555555556p0), of(0x1.5555555555555p0)}, all(lost)},
		// Of e 0.
		{one, 1, large, all(over)}, {one, low, large, all(over)}, {one, low - 1, large, all(over)}, {one, low + 1, [5]uint64{great - 7, great - 7, great - 7, great - 6, great - 7}, all(lost)}, {one, power(-1023), all(power(1023)), all(0)}, {one, least - 1, [5]uint64{power(1022) + 1, power(1022) + 1, power(1022) + 1, power(1022) + 2, power(1022) + 1}, all(lost)},
		{one, least, all(power(1022)), all(0)}, {one, least + 1, [5]uint64{power(1022) - 2, power(1022) - 2, power(1022) - 2, power(1022) - 1, power(1022) - 2}, all(lost)},
		// The greatest ones.
		{one, great, [5]uint64{low, low, low, low + 1, low}, all(tiny)}, {one, great - 1, [5]uint64{low, low, low, low + 1, low}, all(tiny)}, {one, power(1023), all(power(-1023)), all(0)}, {one, power(1023) + 1, [5]uint64{power(-1023), power(-1023), power(-1023) - 1, power(-1023), power(-1023) - 1}, all(tiny)}, {one, power(1022), all(least), all(0)}, {one, power(1022) + 1, [5]uint64{least - 1, least - 1, least - 1, least, least - 1}, all(tiny)},
	} {
		c.hold(t)
	}
	for _, mode := range modes {
		for _, neg := range signs {
			holdInverse(t, signed(neg, 0), mode, signed(neg, inf), api.DivZero)
			holdInverse(t, signed(neg, inf), mode, signed(neg, 0), 0)
		}
		for _, nan := range nans {
			holdInverse(t, nan, mode, api.NaN, 0)
		}
	}
}

// P9.1: zeros, infinite ones and NaNs, with all signs, in all directions.
func TestNotFinite(t *testing.T) {
	for _, mode := range modes {
		for _, a := range edges() {
			for _, nan := range nans {
				holdDiv(t, a, nan, mode, api.NaN, 0)
				holdDiv(t, nan, a, mode, api.NaN, 0)
			}
			for _, neg := range signs {
				unlike := (a&sign != 0) != neg
				zero, infinite := signed(neg, 0), signed(neg, inf)
				switch {
				case isNaN(a):
				case isInf(a):
					holdDiv(t, a, infinite, mode, api.NaN, api.Invalid)
					holdDiv(t, a, zero, mode, signed(unlike, inf), 0)
					holdDiv(t, zero, a, mode, signed(unlike, 0), 0)
				case isZero(a):
					holdDiv(t, a, zero, mode, api.NaN, api.Invalid)
					holdDiv(t, a, infinite, mode, signed(unlike, 0), 0)
					holdDiv(t, infinite, a, mode, signed(unlike, inf), 0)
				default:
					holdDiv(t, a, zero, mode, signed(unlike, inf), api.DivZero)
					holdDiv(t, zero, a, mode, signed(unlike, 0), 0)
					holdDiv(t, a, infinite, mode, signed(unlike, 0), 0)
					holdDiv(t, infinite, a, mode, signed(unlike, inf), 0)
				}
			}
		}
	}
}

func TestEdges(t *testing.T) {
	for _, mode := range modes {
		for _, a := range edges() {
			want, flags := reference(one, a, mode)
			holdInverse(t, a, mode, want, flags)
			for _, b := range edges() {
				want, flags := reference(a, b, mode)
				holdDiv(t, a, b, mode, want, flags)
			}
		}
	}
}

// pair makes two numbers; quotients at both ends come up often.
func (s *source) pair() (uint64, uint64) {
	a := s.number()
	e := int(a >> 52 & 2047)
	switch s.below(4) {
	case 0:
		return a, s.near(a, 2)
	case 1:
		return a, s.near(uint64(min(e+1023, 2046))<<52, 60)
	case 2:
		return a, s.near(uint64(max(e-1023, 0))<<52, 60)
	}
	return a, s.number()
}

func TestDivAsSaid(t *testing.T) {
	s := source(1)
	for range 60000 {
		a, b := s.pair()
		mode := modes[s.below(len(modes))]
		want, flags := reference(a, b, mode)
		holdDiv(t, a, b, mode, want, flags)
		want, flags = reference(one, b, mode)
		holdInverse(t, b, mode, want, flags)
		if t.Failed() {
			return
		}
	}
}

// In direction 0 as the machine divides them.
func TestDivAsTheMachine(t *testing.T) {
	s := source(2)
	for range 200000 {
		a, b := s.pair()
		want := of(math.Float64frombits(a) / math.Float64frombits(b))
		if isNaN(want) {
			want = api.NaN
		}
		if got, _ := Div(a, b, api.NearEven); got != want {
			t.Fatalf("P9.1: Div(%#x, %#x, 0) = %#x, want %#x", a, b, got, want)
		}
	}
}

// P9.2: nothing is kept: what was told once is told again, whatever was asked
// between.
func TestNothingIsKept(t *testing.T) {
	type answer struct {
		a     uint64
		flags int
	}
	ask := func() []answer {
		var out []answer
		s := source(3)
		for range 2000 {
			a, b := s.pair()
			mode := s.below(5)
			quotient, flags := Div(a, b, mode)
			inverse, more := Inverse(b, mode)
			out = append(out, answer{quotient, flags}, answer{inverse, more})
		}
		return out
	}
	first := ask()
	for i, a := range ask() {
		if a != first[i] {
			t.Fatalf("P9.2: answer %d is %v, and was %v", i, a, first[i])
		}
	}
}
