package ffma

import (
	"math"
	"math/big"
	"slices"
	"testing"

	"vernier/api"
)

// reference is a times b and c as the chapter says it, of numbers that another
// program multiplies and adds.
func reference(a, b, c uint64, mode int) (uint64, int) {
	product := (a ^ b) & sign
	infinite := isInf(a) || isInf(b)
	switch {
	case isNaN(a) || isNaN(b):
		return api.NaN, 0
	case infinite && (isZero(a) || isZero(b)):
		return api.NaN, api.Invalid
	case isNaN(c):
		return api.NaN, 0
	case infinite && isInf(c) && product != c&sign:
		return api.NaN, api.Invalid
	case infinite:
		return product | inf, 0
	case isInf(c):
		return c, 0
	}
	v := new(big.Int).Mul(units(a), units(b))
	v.Add(v, new(big.Int).Lsh(units(c), 1074))
	if v.Sign() == 0 {
		if product == c&sign {
			return product, 0
		}
		return signed(mode == 4, 0), 0
	}
	return rounded(v.Sign() < 0, new(big.Int).Abs(v), -2*1074, mode)
}

// holdFma holds Fma's answer against the one that is wanted.
func holdFma(t *testing.T, a, b, c uint64, mode int, want uint64, wantFlags int) {
	t.Helper()
	if got, flags := Fma(a, b, c, mode); got != want || flags != wantFlags {
		t.Errorf("P11.1: Fma(%#x, %#x, %#x, %d) = %#x, flags %d; want %#x, flags %d", a, b, c, mode, got, flags, want, wantFlags)
	}
}

// three is three numbers, and what is wanted of them in the directions 0 to 4.
type three struct {
	a, b, c uint64
	want    [5]uint64
	flags   [5]int
}

// hold holds Fma of them in all directions, with other signs, and with a and b
// in the other order.
func (c three) hold(t *testing.T) {
	t.Helper()
	for _, mode := range modes {
		d := direction(mode)
		holdFma(t, c.a, c.b, c.c, mode, c.want[d], c.flags[d])
		holdFma(t, c.b, c.a, c.c, mode, c.want[d], c.flags[d])
		holdFma(t, c.a^sign, c.b^sign, c.c, mode, c.want[d], c.flags[d])
		d = mirrored(d)
		holdFma(t, c.a^sign, c.b, c.c^sign, mode, c.want[d]^sign, c.flags[d])
		holdFma(t, c.a, c.b^sign, c.c^sign, mode, c.want[d]^sign, c.flags[d])
	}
}

// of is the number that the machine tells.
var of = math.Float64bits

func TestExact(t *testing.T) {
	for _, c := range []three{
		{of(2), of(3), of(4), all(of(10)), all(0)}, // the chapter's example
		{of(2), of(3), of(-4), all(of(2)), all(0)}, {of(2), of(3), of(-10), all(of(-4)), all(0)}, {one, one, one, all(of(2)), all(0)}, {of(2), of(3), 0, all(of(6)), all(0)}, {of(2), of(3), sign, all(of(6)), all(0)}, {0, of(3), of(4), all(of(4)), all(0)}, {sign, great, of(4), all(of(4)), all(0)},
		{great, one, 0, all(great), all(0)}, {0, 0, great, all(great), all(0)}, {0, 0, 1, all(uint64(1)), all(0)}, {1, one, 0, all(uint64(1)), all(0)}, {0, 1, sign | (least - 1), all(sign | (least - 1)), all(0)}, {1, of(2), 1, all(uint64(3)), all(0)}, {least - 1, one, 1, all(least), all(0)}, {least, one, 1, all(least + 1), all(0)}, {1, 1, 0, [5]uint64{0, 0, 0, 1, 0}, all(tiny)},
		// Differences that lose nearly all bits, and that come below 2^-1022.
		{one + 1, one + 1, sign | (one + 2), all(power(-104)), all(0)}, {one + 1, one - 2, sign | one, all(sign | power(-104)), all(0)}, {one - 1, one - 1, sign | (one - 2), all(power(-106)), all(0)}, {of(3), of(3002399751580331), sign | power(53), all(one), all(0)}, {of(5), of(1801439850948199), sign | (power(53) + 2), all(sign | one), all(0)},
		{least, one + 1, sign | least, all(uint64(1)), all(0)}, {least, one, sign | 1, all(least - 1), all(0)}, {least + 1, one, sign | least, all(uint64(1)), all(0)}, {power(-500) + 1, power(-500), sign | power(-1000), all(power(-1052)), all(0)}, {power(-511) + 1, power(-511), sign | least, all(uint64(1)), all(0)}, {power(-485) + 1, power(-485) + 1, sign | (power(-970) + 2), all(uint64(1)), all(0)}, {3, power(-1), sign | 1, [5]uint64{0, 1, 0, 1, 0}, all(tiny)},
		// Products above 2^1024 that c brings back.
		{power(512), power(512), sign | power(971), all(great), all(0)}, {power(1023), of(2), sign | great, all(power(971)), all(0)}, {great, of(2), sign | great, all(great), all(0)}, {power(1023), of(3), sign | power(1023) | 1<<51, all(of(0x3p1022)), all(0)},
		// Products below the smallest number that c brings up.
		{power(-600), power(-500), power(-1074), [5]uint64{1, 1, 1, 2, 1}, all(tiny)}, {1, power(-1), least, [5]uint64{least, least + 1, least, least + 1, least}, all(lost)}, {power(-1023), power(-51), 0, all(uint64(1)), all(0)}, {power(-500), power(-524), power(-1000), all(power(-1000) + 1<<28), all(0)},
	} {
		c.hold(t)
	}
}

// P11.1: it is rounded once: where the product is rounded first, another one is
// told.
func TestRoundedOnce(t *testing.T) {
	p, q, r := power(53), power(127), power(129)
	// Their product is 2^74 and 1, a half of q's last bit and 1.
	below1, above1 := of(1<<37-1<<19+1), of(1<<37+1<<19+1)
	for _, c := range []three{
		{power(-53) + 1, one - 2, one + 1, [5]uint64{one + 1, one + 1, one + 1, one + 2, one + 1}, all(lost)}, {power(-53) + 1, one - 1, one, [5]uint64{one + 1, one + 1, one, one + 1, one}, all(lost)}, {one + 1, one - 2, power(-53), [5]uint64{one, one, one, one + 1, one}, all(lost)}, {one + 1, one + 1, power(-53), [5]uint64{one + 3, one + 3, one + 2, one + 3, one + 2}, all(lost)},
		// Halfway, and c alone decides.
		{of(3), of(3002399751580331), 0, [5]uint64{p, p + 1, p, p + 1, p}, all(lost)}, {of(3), of(3002399751580331), 1, [5]uint64{p + 1, p + 1, p, p + 1, p}, all(lost)}, {of(3), of(3002399751580331), sign | 1, [5]uint64{p, p, p, p + 1, p}, all(lost)},
		{of(5), of(1801439850948199), sign, [5]uint64{p + 2, p + 2, p + 1, p + 2, p + 1}, all(lost)}, {of(5), of(1801439850948199), 1, [5]uint64{p + 2, p + 2, p + 1, p + 2, p + 1}, all(lost)}, {of(5), of(1801439850948199), sign | 1, [5]uint64{p + 1, p + 1, p + 1, p + 2, p + 1}, all(lost)}, {of(5), of(1801439850948199), sign | least, [5]uint64{p + 1, p + 1, p + 1, p + 2, p + 1}, all(lost)},
		// Halfway, and the product alone decides.
		{below1, above1, q, [5]uint64{q + 1, q + 1, q, q + 1, q}, all(lost)}, {below1, above1, q + 1, [5]uint64{q + 2, q + 2, q + 1, q + 2, q + 1}, all(lost)}, {sign | below1, above1, q + 1, [5]uint64{q, q, q, q + 1, q}, all(lost)}, {sign | below1, above1, q + 2, [5]uint64{q + 1, q + 1, q + 1, q + 2, q + 1}, all(lost)},
		// The product is 2^76 less 1, a half of r's last bit less 1.
		{sign | of(1<<38-1), of(1<<38 + 1), r + 1, [5]uint64{r + 1, r + 1, r, r + 1, r}, all(lost)}, {sign | of(1<<38-1), of(1<<38 + 1), r + 2, [5]uint64{r + 2, r + 2, r + 1, r + 2, r + 1}, all(lost)}, {of(1<<38 - 1), of(1<<38 + 1), r, [5]uint64{r, r, r, r + 1, r}, all(lost)}, {of(1<<38 - 1), of(1<<38 + 1), r + 1, [5]uint64{r + 1, r + 1, r + 1, r + 2, r + 1}, all(lost)},
		{1, 1, p, [5]uint64{p, p, p, p + 1, p}, all(lost)}, {sign | 1, 1, p, [5]uint64{p, p, p - 1, p, p - 1}, all(lost)}, {of(3), of(1.0 / 3), p, [5]uint64{p, p, p, p + 1, p}, all(lost)}, {one + 1, one, p, [5]uint64{p + 1, p + 1, p, p + 1, p}, all(lost)}, {one + 1, one + 1, p, [5]uint64{p + 1, p + 1, p, p + 1, p}, all(lost)}, {one + 1, one - 2, p + 1, [5]uint64{p + 1, p + 1, p + 1, p + 2, p + 1}, all(lost)},
	} {
		c.hold(t)
	}
}

// P11.1: products that are 2^-104 off a half, and a c that brings them there, or
// nearly there.
func TestBroughtToHalf(t *testing.T) {
	hair, two := power(-104), of(2)
	for _, c := range []struct {
		a, b, lower uint64
		less        bool // it is below a half
	}{
		{one + 0x00005bfbb9089, one + 0xffffdd15ae5b9, two + 0x00004a8689f08, false}, {one + 0x00005bfba2d69, one + 0xffffc84a932d9, two + 0x000004020e26b3, false},
		{one + 0x00005bfc8d07d, one + 0xffffa4e9cd72b, two + 0x00002e716363c, true}, {one + 0x00005bfbb3aab, one + 0xffff532950ffd, two + 0x000005903d1d7, true},
	} {
		lo, up, even := c.lower, c.lower+1, c.lower+c.lower%2
		half, above, below := [5]uint64{even, up, lo, up, lo}, [5]uint64{up, up, lo, up, lo}, [5]uint64{lo, lo, lo, up, lo}
		was, beyond := above, below
		if c.less {
			was, beyond = below, above
		}
		for _, added := range []three{
			{c: 0, want: was}, {c: hair, want: half}, {c: hair - 1, want: was}, {c: hair + 1, want: beyond}, {c: hair - 1<<30, want: was}, {c: hair + 1<<30, want: beyond}, {c: power(-126), want: was}, {c: 1, want: was},
		} {
			added.a, added.b, added.flags = c.a, c.b, all(lost)
			if !c.less {
				added.c |= sign
			}
			added.hold(t)
		}
	}
}

// P11.1: the product and c as far apart as may be, alike, and near.
func TestApart(t *testing.T) {
	above, below := [5]uint64{one, one, one, one + 1, one}, [5]uint64{one, one, one - 1, one, one - 1}
	for _, c := range []three{
		{one, one, 1, above, all(lost)}, {one, one, sign | 1, below, all(lost)}, {one, one, power(-54), above, all(lost)}, {one, one, sign | power(-55), below, all(lost)}, {1, 1, one, above, all(lost)}, {sign | 1, 1, one, below, all(lost)}, {least - 1, least - 1, one, above, all(lost)}, {sign | (least - 1), least - 1, one, below, all(lost)},
		{1, 1, great, [5]uint64{great, great, great, inf, great}, [5]int{lost, lost, lost, over, lost}}, {sign | 1, 1, great, [5]uint64{great, great, great - 1, great, great - 1}, all(lost)}, {sign | 1, 1, power(1023), [5]uint64{power(1023), power(1023), power(1023) - 1, power(1023), power(1023) - 1}, all(lost)}, {great, great, 1, [5]uint64{inf, inf, great, inf, great}, all(over)}, {great, great, sign | great, [5]uint64{inf, inf, great, inf, great}, all(over)},
		{1, 1, 1, [5]uint64{1, 1, 1, 2, 1}, all(tiny)}, {1, 1, sign | 1, [5]uint64{sign | 1, sign | 1, sign, sign, sign | 1}, all(tiny)}, {1, 1, least, [5]uint64{least, least, least, least + 1, least}, all(lost)}, {sign | 1, 1, least, [5]uint64{least, least, least - 1, least, least - 1}, all(tiny)},
		// Alike, and near.
		{one, one, one - 1, [5]uint64{of(2), of(2), of(2) - 1, of(2), of(2) - 1}, all(lost)}, {one + 1, one, one, [5]uint64{of(2), of(2) + 1, of(2), of(2) + 1, of(2)}, all(lost)}, {one + 3, one, one, [5]uint64{of(2) + 2, of(2) + 2, of(2) + 1, of(2) + 2, of(2) + 1}, all(lost)}, {one, one, power(-53), [5]uint64{one, one + 1, one, one + 1, one}, all(lost)}, {one + 1, one, power(-53), [5]uint64{one + 2, one + 2, one + 1, one + 2, one + 1}, all(lost)},
		{one, one, sign | power(-54), [5]uint64{one, one, one - 1, one, one - 1}, all(lost)}, {one, one, sign | (power(-54) + 1), [5]uint64{one - 1, one - 1, one - 1, one, one - 1}, all(lost)}, {power(-27), power(-27), sign | one, [5]uint64{sign | one, sign | one, sign | (one - 1), sign | (one - 1), sign | one}, all(lost)},
	} {
		c.hold(t)
	}
}

// P11.1: at both ends.
func TestEnds(t *testing.T) {
	large, least1 := [5]uint64{inf, inf, great, inf, great}, least-1
	late := [5]int{over, over, lost, over, lost}
	for _, c := range []three{
		// Underflow asks what was there ahead of rounding.
		{least, one - 1, 0, [5]uint64{least, least, least1, least, least1}, all(tiny)}, {least, one - 1, 1, [5]uint64{least, least + 1, least, least + 1, least}, all(lost)}, {least, one - 1, sign | 1, [5]uint64{least1 - 1, least1, least1 - 1, least1, least1 - 1}, all(tiny)}, {1, power(-1), 2*least - 1, [5]uint64{2 * least, 2 * least, 2*least - 1, 2 * least, 2*least - 1}, all(lost)}, {1, power(-1), least1, [5]uint64{least, least, least1, least, least1}, all(tiny)},
		{1, power(-2), least1, [5]uint64{least1, least1, least1, least, least1}, all(tiny)}, {sign | 1, power(-2), least, [5]uint64{least, least, least1, least, least1}, all(tiny)},
		// Below half of the smallest number, half of it, and above.
		{1, power(-2), 0, [5]uint64{0, 0, 0, 1, 0}, all(tiny)}, {1, power(-1), 0, [5]uint64{0, 1, 0, 1, 0}, all(tiny)}, {1, power(-1) + 1, sign, [5]uint64{1, 1, 0, 1, 0}, all(tiny)}, {1, power(-1), 1, [5]uint64{2, 2, 1, 2, 1}, all(tiny)}, {5, power(-1), sign | 1, [5]uint64{2, 2, 1, 2, 1}, all(tiny)}, {1, power(-1), sign | 1, [5]uint64{sign, sign | 1, sign, sign, sign | 1}, all(tiny)},
		// To 2^1024 from below: only where it is the rounded one, Overflow.
		{great, one, power(970), large, late}, {power(512), power(512), sign | power(970), large, late}, {power(512), power(512), sign | power(969), large, late}, {power(512), power(512), sign | 1, large, late}, {great - 1, one + 1, 0, large, late}, {great - 1, one + 1, 1, large, late}, {great - 1, one + 1, sign | 1, large, late},
		{great, one, power(970) - 1, [5]uint64{great, great, great, inf, great}, [5]int{lost, lost, lost, over, lost}}, {power(512), power(512), sign | (power(970) + 1), [5]uint64{great, great, great, inf, great}, [5]int{lost, lost, lost, over, lost}}, {of(5 * 0x1p969), of(7205759403792793), 0, [5]uint64{great, great, great, inf, great}, [5]int{lost, lost, lost, over, lost}},
		// 2^1024, and above it.
		{great, one, power(971), large, all(over)}, {power(512), power(512), 0, large, all(over)}, {power(512), power(512), great, large, all(over)}, {great, great, great, large, all(over)}, {great, of(2), sign | power(971), large, all(over)}, {great, of(2), sign | (great - 2), large, all(over)},
	} {
		c.hold(t)
	}
}

// P11.1: a 0 has the sign of the product and of c, or the direction's.
func TestZero(t *testing.T) {
	for _, mode := range modes {
		unlike := signed(mode == 4, 0)
		for _, a := range []uint64{0, 1, least, one, great} {
			holdFma(t, a, 0, 0, mode, 0, 0)
			holdFma(t, 0, a|sign, sign, mode, sign, 0)
			holdFma(t, a|sign, sign, 0, mode, 0, 0)
			holdFma(t, a, 0, sign, mode, unlike, 0)
			holdFma(t, sign, a, 0, mode, unlike, 0)
			holdFma(t, a|sign, sign, sign, mode, unlike, 0)
			// Sums that are 0 of others.
			holdFma(t, a, one, a|sign, mode, unlike, 0)
			holdFma(t, one|sign, a, a, mode, unlike, 0)
		}
		holdFma(t, of(3), of(3), of(-9), mode, unlike, 0)
		holdFma(t, of(-3), of(3), of(9), mode, unlike, 0)
		holdFma(t, 1, power(1023), sign|power(-51), mode, unlike, 0)
	}
}

// P11.1: NaNs and infinite ones, in the order in which the chapter names them.
func TestNotFinite(t *testing.T) {
	finite := []uint64{0, sign, 1, sign | 1, least, one, sign | one, great, sign | great}
	both := []uint64{inf, sign | inf}
	for _, mode := range modes {
		for _, nan := range nans {
			for _, a := range edges() {
				for _, c := range []uint64{0, one, inf, sign | inf, api.NaN} {
					holdFma(t, a, nan, c, mode, api.NaN, 0)
					holdFma(t, nan, a, c, mode, api.NaN, 0)
				}
				want := api.Invalid
				if !isInf(a) {
					want = 0
				}
				holdFma(t, a, 0, nan, mode, api.NaN, want)
				holdFma(t, sign, a, nan, mode, api.NaN, want)
				holdFma(t, a, one, nan, mode, api.NaN, 0)
			}
		}
		for _, i := range both {
			for _, c := range edges() {
				holdFma(t, i, 0, c, mode, api.NaN, api.Invalid)
				holdFma(t, sign, i, c, mode, api.NaN, api.Invalid)
			}
			for _, a := range finite {
				for _, b := range finite {
					holdFma(t, a, b, i, mode, i, 0)
					if !isZero(a) {
						holdFma(t, a, i, b, mode, i^a&sign, 0)
						holdFma(t, i, a, b, mode, i^a&sign, 0)
					}
				}
				if !isZero(a) {
					holdFma(t, a, i, i^a&sign, mode, i^a&sign, 0)
					holdFma(t, i, a, i^a&sign^sign, mode, api.NaN, api.Invalid)
				}
			}
			holdFma(t, i, i, inf, mode, inf, 0)
			holdFma(t, i, i, sign|inf, mode, api.NaN, api.Invalid)
			holdFma(t, i, i^sign, inf, mode, api.NaN, api.Invalid)
			holdFma(t, i, i^sign, one, mode, sign|inf, 0)
		}
	}
}

func TestEdges(t *testing.T) {
	few := []uint64{0, 1, 3, least - 1, least, power(-1), one - 1, one, one + 1, power(512), great, inf, api.NaN}
	for _, a := range few {
		few = append(few, a|sign)
	}
	for _, a := range few {
		for _, b := range few {
			for _, c := range few {
				for mode := range 5 {
					want, flags := reference(a, b, c, mode)
					holdFma(t, a, b, c, mode, want, flags)
				}
			}
		}
	}
}

// numbers makes three numbers; products at both ends and sums that lose nearly
// all bits come up often.
func (s *source) numbers() (uint64, uint64, uint64) {
	a := s.number()
	end := []int{0, 1023, 2046, s.below(2047)}[s.below(4)] // the e of the product
	b := s.near(uint64(min(max(end+1023-int(a>>52&2047), 0), 2046))<<52, s.below(60))
	product := math.Float64frombits(a) * math.Float64frombits(b)
	switch s.below(4) {
	case 0:
		return a, b, of(product) ^ sign ^ uint64(s.below(4))
	case 1:
		return a, b, s.near(of(product), 3)
	case 2:
		return a, b, s.near(of(product), 130)
	}
	return a, b, s.number()
}

func TestFmaAsSaid(t *testing.T) {
	s := source(1)
	for range 80000 {
		a, b, c := s.numbers()
		mode := modes[s.below(len(modes))]
		want, flags := reference(a, b, c, mode)
		holdFma(t, a, b, c, mode, want, flags)
		if t.Failed() {
			return
		}
	}
}

// In direction 0 as the machine reckons.
func TestFmaAsTheMachine(t *testing.T) {
	s := source(2)
	for range 200000 {
		a, b, c := s.numbers()
		want := of(math.FMA(math.Float64frombits(a), math.Float64frombits(b), math.Float64frombits(c)))
		if isNaN(want) {
			want = api.NaN
		}
		if got, _ := Fma(a, b, c, api.NearEven); got != want {
			t.Fatalf("P11.1: Fma(%#x, %#x, %#x, 0) = %#x, want %#x", a, b, c, got, want)
		}
	}
}

// holdDot holds Dot's answer against the one that is wanted.
func holdDot(t *testing.T, a, b []uint64, mode int, want uint64, wantFlags int, wantErr api.Errno) {
	t.Helper()
	if got, flags, err := Dot(a, b, mode); got != want || flags != wantFlags || err != wantErr {
		t.Errorf("P11.1: Dot(%#x, %#x, %d) = %#x, flags %d, error %d; want %#x, flags %d, error %d", a, b, mode, got, flags, err, want, wantFlags, wantErr)
	}
}

func TestDotWrittenOut(t *testing.T) {
	type row = []uint64
	for _, c := range []struct {
		a, b  row
		want  [5]uint64
		flags [5]int
	}{
		{nil, nil, all(uint64(0)), all(0)}, {row{}, row{}, all(uint64(0)), all(0)}, {nil, row{}, all(uint64(0)), all(0)}, {row{}, nil, all(uint64(0)), all(0)},
		{row{of(2)}, row{of(3)}, all(of(6)), all(0)}, {row{of(1), of(2)}, row{of(3), of(4)}, all(of(11)), all(0)}, {row{of(1), of(2), of(3)}, row{of(4), of(-5), of(6)}, all(of(12)), all(0)},
		// From +0 on.
		{row{sign}, row{one}, [5]uint64{0, 0, 0, 0, sign}, all(0)}, {row{one, one}, row{one, sign | one}, [5]uint64{0, 0, 0, 0, sign}, all(0)}, {row{0}, row{great}, all(uint64(0)), all(0)},
		// Each is rounded once.
		{row{one, one + 1}, row{sign | (one + 2), one + 1}, all(power(-104)), all(0)}, {row{one + 1, one}, row{one + 1, sign | (one + 2)}, [5]uint64{0, 0, 0, power(-52), sign}, all(lost)},
		// Flags that come up early, and late.
		{row{one, power(-30), one}, row{one, power(-30), sign | one}, [5]uint64{0, 0, 0, power(-52), sign}, all(lost)}, {row{one, one, 1}, row{one, one, 1}, [5]uint64{of(2), of(2), of(2), of(2) + 1, of(2)}, all(lost)}, {row{1, one}, row{power(-2), one}, [5]uint64{one, one, one, one + 1, one}, [5]int{tiny, tiny, tiny, tiny, tiny}},
		{row{great, one}, row{great, sign | great}, [5]uint64{inf, inf, 0, inf, sign}, all(over)}, {row{great, one}, row{great, sign | inf}, [5]uint64{api.NaN, api.NaN, sign | inf, api.NaN, sign | inf}, [5]int{over | api.Invalid, over | api.Invalid, over, over | api.Invalid, over}},
		// NaNs and infinite ones.
		{row{one, api.NaN, one}, row{one, one, one}, all(api.NaN), all(0)}, {row{one}, row{inf + 1}, all(api.NaN), all(0)}, {row{one, one}, row{1, api.NaN}, all(api.NaN), all(0)}, {row{api.NaN, one}, row{one, inf}, all(api.NaN), all(0)}, {row{api.NaN, 0}, row{one, inf}, all(api.NaN), all(api.Invalid)},
		{row{one, inf}, row{one, sign | one}, all(sign | inf), all(0)}, {row{inf, inf}, row{one, sign | one}, all(api.NaN), all(api.Invalid)}, {row{0, one}, row{inf, one}, all(api.NaN), all(api.Invalid)}, {row{inf, one}, row{one, great}, all(inf), all(0)},
	} {
		for _, mode := range modes {
			d := direction(mode)
			holdDot(t, c.a, c.b, mode, c.want[d], c.flags[d], api.OK)
		}
	}
}

// P11.1, P4: rows that are not as long, and nothing beside the error.
func TestDotWrong(t *testing.T) {
	long := slices.Repeat([]uint64{api.NaN, inf, one}, 100)
	for i := range 6 {
		for j := range 6 {
			if i != j {
				for _, mode := range modes {
					holdDot(t, long[:i], long[1:1+j], mode, 0, 0, api.ErrShape)
				}
			}
		}
	}
	holdDot(t, nil, long, 0, 0, 0, api.ErrShape)
	holdDot(t, long, nil, 3, 0, 0, api.ErrShape)
	holdDot(t, long, long[:299], 4, 0, 0, api.ErrShape)
}

func TestDotAsSaid(t *testing.T) {
	s := source(3)
	for range 5000 {
		a := make([]uint64, s.below(8))
		b := make([]uint64, len(a))
		for i := range a {
			a[i], b[i] = s.number(), s.number()
			if s.below(4) > 0 {
				a[i], b[i] = s.near(one, 3), s.near(one, 60)
			}
		}
		mode := modes[s.below(len(modes))]
		want, flags := uint64(0), 0
		for i := range a {
			next, met := reference(a[i], b[i], want, mode)
			want, flags = next, flags|met
		}
		holdDot(t, a, b, mode, want, flags, api.OK)
		if t.Failed() {
			return
		}
	}
}

// P11.2: what is handed in stays as it is, up to its capacity, and isn't kept.
func TestDotLeavesItsRows(t *testing.T) {
	s := source(4)
	for range 2000 {
		n := s.below(6)
		a, b := make([]uint64, n+3), make([]uint64, n+3)
		for i := range a {
			a[i], b[i] = s.number(), s.number()
		}
		keptA, keptB, mode := slices.Clone(a), slices.Clone(b), s.below(5)
		got, flags, err := Dot(a[:n], b[:n], mode)
		if !slices.Equal(a, keptA) || !slices.Equal(b, keptB) {
			t.Fatalf("P11.2: Dot changes %#x or %#x", keptA, keptB)
		}
		// Other numbers in the same memory, and the first ones in another: each
		// is told as if nothing had been ahead.
		for i := range a {
			a[i], b[i] = one, of(2)
		}
		holdDot(t, a[:n], b[:n], mode, of(float64(2*n)), 0, api.OK)
		holdDot(t, keptA[:n], keptB[:n], mode, got, flags, err)
		// A row by itself.
		holdDot(t, b[:n], b[:n], mode, of(float64(4*n)), 0, api.OK)
	}
}
