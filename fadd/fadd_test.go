package fadd

import (
	"math"
	"math/big"
	"slices"
	"testing"

	"vernier/api"
)

// reference is the sum as the chapter says it, of numbers that another program
// adds.
func reference(a, b uint64, mode int) (uint64, int) {
	switch {
	case isNaN(a) || isNaN(b):
		return api.NaN, 0
	case isInf(a) && isInf(b):
		if a != b {
			return api.NaN, api.Invalid
		}
		return a, 0
	case isInf(a):
		return a, 0
	case isInf(b):
		return b, 0
	}
	sum := new(big.Int).Add(units(a), units(b))
	if sum.Sign() == 0 {
		if a&sign == b&sign {
			return a & sign, 0
		}
		return signed(mode == 4, 0), 0
	}
	return rounded(sum.Sign() < 0, new(big.Int).Abs(sum), -1074, mode)
}

// holdAdd holds Add's answer against the one that is wanted, and Sub's with the
// other sign of b.
func holdAdd(t *testing.T, promise string, a, b uint64, mode int, want uint64, wantFlags int) {
	t.Helper()
	if got, flags := Add(a, b, mode); got != want || flags != wantFlags {
		t.Errorf("%s: Add(%#x, %#x, %d) = %#x, flags %d; want %#x, flags %d", promise, a, b, mode, got, flags, want, wantFlags)
	}
	if got, flags := Sub(a, b^sign, mode); got != want || flags != wantFlags {
		t.Errorf("%s: Sub(%#x, %#x, %d) = %#x, flags %d; want %#x, flags %d", promise, a, b^sign, mode, got, flags, want, wantFlags)
	}
}

// sum is two numbers, and what is wanted of them in the directions 0 to 4.
type sum struct {
	a, b  uint64
	want  [5]uint64
	flags [5]int
}

// hold holds Add of them, and of both with the other sign, in both orders and
// in all directions.
func (c sum) hold(t *testing.T) {
	t.Helper()
	for _, mode := range modes {
		d := direction(mode)
		holdAdd(t, "P7.1", c.a, c.b, mode, c.want[d], c.flags[d])
		holdAdd(t, "P7.2", c.b, c.a, mode, c.want[d], c.flags[d])
		d = mirrored(d)
		holdAdd(t, "P7.1", c.a^sign, c.b^sign, mode, c.want[d]^sign, c.flags[d])
		holdAdd(t, "P7.2", c.b^sign, c.a^sign, mode, c.want[d]^sign, c.flags[d])
	}
}

func TestExact(t *testing.T) {
	for _, c := range []sum{
		{one, one, all(power(1)), all(0)}, // the chapter's example
		{one, power(1), all(uint64(0x4008000000000000)), all(0)}, {one, power(-52), all(one + 1), all(0)}, {power(52), one, all(power(52) + 1), all(0)}, {power(53), power(1), all(power(53) + 1), all(0)},
		{one, 0, all(one), all(0)}, {one, sign, all(one), all(0)}, {1, 0, all(uint64(1)), all(0)}, {1, sign, all(uint64(1)), all(0)}, {great, 0, all(great), all(0)}, {great, sign, all(great), all(0)}, {least, sign, all(least), all(0)},
		// Of e 0, and from there on.
		{1, 1, all(uint64(2)), all(0)}, {1, 2, all(uint64(3)), all(0)}, {least - 1, 1, all(least), all(0)}, {least - 1, least - 1, all(2*least - 2), all(0)}, {least, 1, all(least + 1), all(0)}, {least, least, all(2 * least), all(0)}, {2*least - 1, 1, all(2 * least), all(0)},
		{2*least - 1, 2*least - 1, all(3*least - 1), all(0)}, {power(1022), power(1022), all(power(1023)), all(0)}, {great, sign | power(971), all(great - 1), all(0)}, {great - 1, power(971), all(great), all(0)},
		// Differences that lose nearly all bits, and that come below 2^-1022.
		{one + 1, sign | one, all(power(-52)), all(0)}, {one, sign | (one - 1), all(power(-53)), all(0)}, {power(1), sign | (power(1) - 1), all(power(-52)), all(0)}, {great, sign | (great - 1), all(power(971)), all(0)}, {power(1023), sign | (power(1023) - 1), all(power(970)), all(0)},
		{least, sign | 1, all(least - 1), all(0)}, {least + 1, sign | least, all(uint64(1)), all(0)}, {least, sign | (least - 1), all(uint64(1)), all(0)}, {2 * least, sign | (2*least - 1), all(uint64(1)), all(0)}, {3 * least, sign | (3*least - 1), all(uint64(2)), all(0)}, {2*least + 1, sign | (2*least - 1), all(uint64(3)), all(0)},
		{least - 1, sign | 1, all(least - 2), all(0)}, {2, sign | 1, all(uint64(1)), all(0)}, {power(-969) + 1, sign | power(-969), all(power(-1021)), all(0)}, {power(-971) + 1, sign | power(-971), all(power(-1023)), all(0)},
		{one, sign | power(-53), all(one - 1), all(0)}, {power(64), sign | power(11), all(power(64) - 1), all(0)},
	} {
		c.hold(t)
	}
}

func TestNearHalf(t *testing.T) {
	above, below := [5]uint64{one, one, one, one + 1, one}, [5]uint64{one, one, one - 1, one, one - 1}
	two, three := power(1), uint64(0x4008000000000000)
	for _, c := range []sum{
		// Halfway, the lower one even, and odd.
		{one, power(-53), [5]uint64{one, one + 1, one, one + 1, one}, all(lost)}, {one + 1, power(-53), [5]uint64{one + 2, one + 2, one + 1, one + 2, one + 1}, all(lost)}, {one + 2, power(-53), [5]uint64{one + 2, one + 3, one + 2, one + 3, one + 2}, all(lost)},
		{power(53), one, [5]uint64{power(53), power(53) + 1, power(53), power(53) + 1, power(53)}, all(lost)}, {power(53) + 1, one, [5]uint64{power(53) + 2, power(53) + 2, power(53) + 1, power(53) + 2, power(53) + 1}, all(lost)},
		// Just below, and just above.
		{one, power(-53) - 1, above, all(lost)}, {one, power(-53) + 1, [5]uint64{one + 1, one + 1, one, one + 1, one}, all(lost)}, {one + 1, power(-53) - 1, [5]uint64{one + 1, one + 1, one + 1, one + 2, one + 1}, all(lost)}, {one + 1, power(-53) + 1, [5]uint64{one + 2, one + 2, one + 1, one + 2, one + 1}, all(lost)},
		// The same from above.
		{one, sign | power(-54), below, all(lost)}, {one, sign | power(-54) - 1, below, all(lost)}, {one, sign | power(-54) + 1, [5]uint64{one - 1, one - 1, one - 1, one, one - 1}, all(lost)}, {one, sign | power(-55), below, all(lost)},
		{one + 1, sign | power(-53), [5]uint64{one, one + 1, one, one + 1, one}, all(lost)}, {one + 2, sign | power(-53), [5]uint64{one + 2, one + 2, one + 1, one + 2, one + 1}, all(lost)},
		{one + 1, sign | power(-53) - 1, [5]uint64{one + 1, one + 1, one, one + 1, one}, all(lost)}, {one + 1, sign | power(-53) + 1, above, all(lost)},
		// Far below.
		{one, 1, above, all(lost)}, {one, least - 1, above, all(lost)}, {one, least, above, all(lost)}, {one, power(-64), above, all(lost)}, {one, power(-65), above, all(lost)}, {one, power(-116), above, all(lost)}, {one, power(-117) + 1, above, all(lost)}, {one, power(-118), above, all(lost)}, {one, power(-180), above, all(lost)},
		{one, sign | 1, below, all(lost)}, {one, sign | least - 1, below, all(lost)}, {one, sign | least, below, all(lost)}, {one, sign | power(-64), below, all(lost)}, {one, sign | power(-65), below, all(lost)}, {one, sign | power(-116), below, all(lost)}, {one, sign | power(-117) + 1, below, all(lost)}, {one, sign | power(-180), below, all(lost)},
		{great, sign | 1, [5]uint64{great, great, great - 1, great, great - 1}, all(lost)}, {power(1023), sign | 1, [5]uint64{power(1023), power(1023), power(1023) - 1, power(1023), power(1023) - 1}, all(lost)}, {power(1023), 1, [5]uint64{power(1023), power(1023), power(1023), power(1023) + 1, power(1023)}, all(lost)},
		// Up to the next power of two.
		{two - 1, power(-53), [5]uint64{two, two, two - 1, two, two - 1}, all(lost)}, {two - 1, power(-53) - 1, [5]uint64{two - 1, two - 1, two - 1, two, two - 1}, all(lost)}, {two - 1, power(-53) + 1, [5]uint64{two, two, two - 1, two, two - 1}, all(lost)}, {two - 1, two - 1, all(power(2) - 1), all(0)},
		{two - 1, one - 1, [5]uint64{three - 1, three - 1, three - 1, three, three - 1}, all(lost)}, {two - 1, one - 2, [5]uint64{three - 1, three - 1, three - 1, three - 1, three - 1}, all(0)},
		// From 2^-1022 on bits may be lost again; below it none are.
		{2 * least, 1, [5]uint64{2 * least, 2*least + 1, 2 * least, 2*least + 1, 2 * least}, all(lost)}, {2*least + 1, 1, [5]uint64{2*least + 2, 2*least + 2, 2*least + 1, 2*least + 2, 2*least + 1}, all(lost)},
	} {
		c.hold(t)
	}
}

func TestGreat(t *testing.T) {
	large := [5]uint64{inf, inf, great, inf, great}
	for _, c := range []sum{
		// To 2^1024 from below: only where it is the rounded one, Overflow.
		{great, power(970), large, [5]int{over, over, lost, over, lost}}, {great, power(970) + 1, large, [5]int{over, over, lost, over, lost}},
		{great, power(970) - 1, [5]uint64{great, great, great, inf, great}, [5]int{lost, lost, lost, over, lost}}, {great, 1, [5]uint64{great, great, great, inf, great}, [5]int{lost, lost, lost, over, lost}},
		// 2^1024 itself, and above it.
		{great, power(971), large, all(over)}, {power(1023), power(1023), large, all(over)}, {great, great, large, all(over)}, {great, power(1023), large, all(over)}, {great, great - 1, large, all(over)}, {great, power(972), large, all(over)},
	} {
		c.hold(t)
	}
}

// P7.1: a sum that is 0 has the sign of both, or the direction's.
func TestZero(t *testing.T) {
	for _, mode := range modes {
		holdAdd(t, "P7.1", 0, 0, mode, 0, 0)
		holdAdd(t, "P7.1", sign, sign, mode, sign, 0)
		holdAdd(t, "P7.1", 0, sign, mode, signed(mode == 4, 0), 0)
		holdAdd(t, "P7.1", sign, 0, mode, signed(mode == 4, 0), 0)
		for _, a := range edges() {
			if !isNaN(a) && !isInf(a) {
				holdAdd(t, "P7.1", a, a^sign, mode, signed(mode == 4, 0), 0)
			}
		}
	}
}

// P7.1: infinite ones and NaNs, in all directions.
func TestNotFinite(t *testing.T) {
	for _, mode := range modes {
		holdAdd(t, "P7.1", inf, inf, mode, inf, 0)
		holdAdd(t, "P7.1", sign|inf, sign|inf, mode, sign|inf, 0)
		holdAdd(t, "P7.1", inf, sign|inf, mode, api.NaN, api.Invalid)
		holdAdd(t, "P7.1", sign|inf, inf, mode, api.NaN, api.Invalid)
		for _, a := range edges() {
			for _, nan := range nans {
				holdAdd(t, "P7.1", a, nan, mode, api.NaN, 0)
				holdAdd(t, "P7.1", nan, a, mode, api.NaN, 0)
			}
			if isNaN(a) || isInf(a) {
				continue
			}
			for _, b := range []uint64{inf, sign | inf} {
				holdAdd(t, "P7.1", a, b, mode, b, 0)
				holdAdd(t, "P7.1", b, a, mode, b, 0)
			}
		}
	}
}

func TestEdges(t *testing.T) {
	for _, mode := range modes {
		for _, a := range edges() {
			for _, b := range edges() {
				want, flags := reference(a, b, mode)
				holdAdd(t, "P7.1", a, b, mode, want, flags)
			}
		}
	}
}

// pair makes two numbers; how far apart they are is of all kinds.
func (s *source) pair() (uint64, uint64) {
	a := s.number()
	switch s.below(4) {
	case 0:
		return a, s.near(a, 2)
	case 1:
		return a, s.near(a, 130)
	case 2:
		return a, a ^ sign ^ uint64(s.below(4))
	}
	return a, s.number()
}

func TestAddAsSaid(t *testing.T) {
	s := source(1)
	for range 60000 {
		a, b := s.pair()
		mode := modes[s.below(len(modes))]
		want, flags := reference(a, b, mode)
		holdAdd(t, "P7.1", a, b, mode, want, flags)
		if t.Failed() {
			return
		}
	}
}

// In direction 0 as the machine adds them.
func TestAddAsTheMachine(t *testing.T) {
	s := source(2)
	for range 200000 {
		a, b := s.pair()
		want := math.Float64bits(math.Float64frombits(a) + math.Float64frombits(b))
		if isNaN(want) {
			want = api.NaN
		}
		if got, _ := Add(a, b, api.NearEven); got != want {
			t.Fatalf("P7.1: Add(%#x, %#x, 0) = %#x, want %#x", a, b, got, want)
		}
	}
}

// P7.2: in any order a sum is the same.
func TestOrder(t *testing.T) {
	s, e := source(3), edges()
	for i := range 100000 {
		a, b := s.pair()
		if i%10 == 0 {
			a, b = e[s.below(len(e))], e[s.below(len(e))]
		}
		mode := modes[s.below(len(modes))]
		got, flags := Add(a, b, mode)
		turned, turnedFlags := Add(b, a, mode)
		if got != turned || flags != turnedFlags {
			t.Fatalf("P7.2: Add(%#x, %#x, %d) = %#x, flags %d; turned %#x, flags %d", a, b, mode, got, flags, turned, turnedFlags)
		}
	}
}

// holdSum holds Sum's answer against the one that is wanted.
func holdSum(t *testing.T, mode int, l []uint64, want uint64, wantFlags int) {
	t.Helper()
	if got, flags := Sum(mode, l...); got != want || flags != wantFlags {
		t.Errorf("P7.1: Sum(%d, %#x) = %#x, flags %d; want %#x, flags %d", mode, l, got, flags, want, wantFlags)
	}
}

func TestSumWrittenOut(t *testing.T) {
	for _, c := range []struct {
		l     []uint64
		want  [5]uint64
		flags [5]int
	}{
		{nil, all(uint64(0)), all(0)}, {[]uint64{}, all(uint64(0)), all(0)}, {[]uint64{0}, all(uint64(0)), all(0)}, {[]uint64{one}, all(one), all(0)}, {[]uint64{sign | one}, all(sign | one), all(0)}, {[]uint64{great}, all(great), all(0)}, {[]uint64{1}, all(uint64(1)), all(0)},
		// +0 and -0.
		{[]uint64{sign}, [5]uint64{0, 0, 0, 0, sign}, all(0)}, {[]uint64{sign, sign}, [5]uint64{0, 0, 0, 0, sign}, all(0)}, {[]uint64{one, sign | one}, [5]uint64{0, 0, 0, 0, sign}, all(0)},
		{[]uint64{one, power(1), 0x4008000000000000}, all(power(2) + 1<<51), all(0)}, {[]uint64{one, one, one, one}, all(power(2)), all(0)},
		// One by one, from the first on.
		{[]uint64{one, power(-53), power(-53)}, [5]uint64{one, one + 2, one, one + 2, one}, all(lost)}, {[]uint64{power(-53), power(-53), one}, all(one + 1), all(0)},
		// Flags that come up early, and late.
		{[]uint64{one, power(-60), sign | one}, [5]uint64{0, 0, 0, power(-52), sign}, all(lost)}, {[]uint64{one, one, 1}, [5]uint64{power(1), power(1), power(1), power(1) + 1, power(1)}, all(lost)},
		{[]uint64{great, great, sign | great}, [5]uint64{inf, inf, 0, inf, sign}, all(over)}, {[]uint64{one, great, great}, [5]uint64{inf, inf, great, inf, great}, all(over)},
		{[]uint64{great, great, sign | inf}, [5]uint64{api.NaN, api.NaN, sign | inf, api.NaN, sign | inf}, [5]int{over | api.Invalid, over | api.Invalid, over, over | api.Invalid, over}},
		{[]uint64{great, great, inf, one}, all(inf), all(over)}, {[]uint64{one, 1, inf}, all(inf), all(lost)},
		// NaNs and infinite ones.
		{[]uint64{api.NaN}, all(api.NaN), all(0)}, {[]uint64{sign | inf + 1}, all(api.NaN), all(0)}, {[]uint64{one, inf + 1, one}, all(api.NaN), all(0)}, {[]uint64{one, 1, api.NaN, one, 1}, all(api.NaN), all(lost)}, {[]uint64{api.NaN, one, 1}, all(api.NaN), all(0)}, {[]uint64{api.NaN, inf, sign | inf}, all(api.NaN), all(0)},
		{[]uint64{inf}, all(inf), all(0)}, {[]uint64{one, sign | inf, one}, all(sign | inf), all(0)}, {[]uint64{inf, inf}, all(inf), all(0)}, {[]uint64{inf, sign | inf}, all(api.NaN), all(api.Invalid)}, {[]uint64{sign | inf, one, inf, one, 1}, all(api.NaN), all(api.Invalid)},
	} {
		for _, mode := range modes {
			d := direction(mode)
			holdSum(t, mode, c.l, c.want[d], c.flags[d])
		}
	}
}

func TestSumAsSaid(t *testing.T) {
	s := source(4)
	for range 4000 {
		l := make([]uint64, s.below(9))
		for i := range l {
			l[i] = s.number()
			if i > 0 && s.below(3) > 0 {
				l[i] = s.near(l[0], 60)
			}
		}
		mode := modes[s.below(len(modes))]
		want, flags := uint64(0), 0
		for _, a := range l {
			next, met := reference(want, a, mode)
			want, flags = next, flags|met
		}
		holdSum(t, mode, l, want, flags)
		if t.Failed() {
			return
		}
	}
}

// P7.3: what is handed in stays as it is, up to its capacity, and isn't kept.
func TestSumLeavesItsList(t *testing.T) {
	s := source(5)
	for range 2000 {
		words := make([]uint64, 3+s.below(6))
		for i := range words {
			words[i] = s.number()
		}
		l, kept, mode := words[:len(words)-3], slices.Clone(words), s.below(5)
		got, flags := Sum(mode, l...)
		if !slices.Equal(words, kept) {
			t.Fatalf("P7.3: Sum changes %#x", kept)
		}
		// Other numbers in the same memory, and the first ones in another: each
		// is told as if nothing had been ahead.
		for i := range words {
			words[i] = one
		}
		if count, _ := Sum(mode, l...); count != math.Float64bits(float64(len(l))) {
			t.Fatalf("P7.3: Sum keeps what was in %#x", kept)
		}
		holdSum(t, mode, kept[:len(l)], got, flags)
	}
}
