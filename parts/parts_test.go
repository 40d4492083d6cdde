package parts

import (
	"math"
	"math/big"
	"slices"
	"testing"

	"vernier/api"
)

const (
	sign  = uint64(1) << 63
	one   = uint64(0x3ff0000000000000) // 1
	least = uint64(0x0010000000000000) // 2^-1022, the smallest of e 1
	great = uint64(0x7fefffffffffffff) // the greatest finite number
	inf   = uint64(0x7ff0000000000000)
	top   = ^uint64(0)

	most   = 1 << 14 // the greatest exp of Round and Exact
	widest = 1 << 15 // that of Wide
	full   = 1 << 10 // the most limbs of Wide

	lost = api.Inexact
	tiny = api.Inexact | api.Underflow
	over = api.Inexact | api.Overflow
)

// signs are both.
var signs = []bool{false, true}

// modes are the directions, and others, which count as 0.
var modes = []int{0, 1, 2, 3, 4, -1, 5, -4, 6, 256, 1 << 32, math.MinInt, math.MaxInt}

// direction is mode as the chapter counts it.
func direction(mode int) int {
	if mode < 0 || mode > 4 {
		return 0
	}
	return mode
}

// mirrored is the direction that does to a number what mode does to its
// opposite.
func mirrored(mode int) int {
	switch mode {
	case 3:
		return 4
	case 4:
		return 3
	}
	return mode
}

// signed is a number above 0 with a sign.
func signed(neg bool, a uint64) uint64 {
	if neg {
		return a | sign
	}
	return a
}

// source is a rule of numbers that look mixed, the same in every run.
type source uint64

func (s *source) next() uint64 {
	*s += 0x9e3779b97f4a7c15
	z := uint64(*s)
	z = (z ^ z>>30) * 0xbf58476d1ce4e5b9
	z = (z ^ z>>27) * 0x94d049bb133111eb
	return z ^ z>>31
}

// below is a number from 0 to n-1.
func (s *source) below(n int) int { return int(s.next() % uint64(n)) }

// word makes a word; the edges of one come up often.
func (s *source) word() uint64 {
	switch s.below(8) {
	case 0:
		return 0
	case 1:
		return top << s.below(64)
	case 2:
		return top >> s.below(64)
	case 3:
		return 1 << s.below(64)
	case 4:
		// Near a half of what is kept.
		return sign | 1<<s.below(64) + uint64(s.below(3)) - 1
	case 5:
		return s.next() >> s.below(64)
	}
	return s.next()
}

// natural is the number that limbs stand for, reckoned by another program.
func natural(limbs []uint64) *big.Int {
	v := new(big.Int)
	for i := len(limbs) - 1; i >= 0; i-- {
		v.Lsh(v, 64)
		v.Or(v, new(big.Int).SetUint64(limbs[i]))
	}
	return v
}

// rounded is v times 2^exp, v not below 0, rounded word by word as the chapter
// says it, by another program's whole numbers and the machine's own scaling.
func rounded(neg bool, v *big.Int, exp int, mode int) (uint64, int) {
	if v.Sign() == 0 {
		return signed(neg, 0), 0
	}
	highest := v.BitLen() - 1 + exp
	x := max(highest-52, -1074)
	num, den := new(big.Int).Set(v), big.NewInt(1)
	if exp >= x {
		num.Lsh(num, uint(exp-x))
	} else {
		den.Lsh(den, uint(x-exp))
	}
	m, rest := new(big.Int).QuoRem(num, den, new(big.Int))
	flags := 0
	if rest.Sign() != 0 {
		flags = lost
		if highest < -1022 {
			flags = tiny
		}
		half := rest.Lsh(rest, 1).Cmp(den)
		farther := half > 0 || half == 0 && m.Bit(0) == 1
		switch direction(mode) {
		case 1:
			farther = half >= 0
		case 2:
			farther = false
		case 3:
			farther = !neg
		case 4:
			farther = neg
		}
		if farther {
			m.Add(m, big.NewInt(1))
		}
	}
	if m.BitLen()+x > 1024 {
		finite := []bool{false, false, true, neg, !neg}[direction(mode)]
		if finite {
			return signed(neg, great), over
		}
		return signed(neg, inf), over
	}
	return signed(neg, math.Float64bits(math.Ldexp(float64(m.Uint64()), x))), flags
}

// withMore is hi, lo and exp as a number, with a bit behind it where the
// chapter has it count.
func withMore(hi, lo uint64, exp int, more bool) (*big.Int, int) {
	v := natural([]uint64{lo, hi})
	exp = min(max(exp, -most), most)
	if more && v.Sign() > 0 && (v.BitLen() > 54 || exp <= -1080) {
		v.Lsh(v, 90)
		return v.Add(v, big.NewInt(1)), exp - 90
	}
	return v, exp
}

// holdRound holds Round's answer against the one that is wanted.
func holdRound(t *testing.T, neg bool, hi, lo uint64, exp int, more bool, mode int, want uint64, wantFlags int) {
	t.Helper()
	if got, flags := Round(neg, hi, lo, exp, more, mode); got != want || flags != wantFlags {
		t.Errorf("P6.1: Round(%v, %#x, %#x, %d, %v, %d) = %#x, flags %d; want %#x, flags %d", neg, hi, lo, exp, more, mode, got, flags, want, wantFlags)
	}
}

// P6.1: the kinds, and numbers taken apart.

func TestClass(t *testing.T) {
	for _, c := range []struct {
		a    uint64
		want int
	}{
		{0, 0}, {1, 1}, {least - 1, 1}, {least, 1}, {one, 1}, {great, 1}, {0x0008000000000000, 1}, {0x7fe0000000000000, 1},
		{inf, 2}, {inf + 1, 3}, {api.NaN, 3}, {api.NaN - 1, 3}, {api.NaN + 1, 3}, {0x7fffffffffffffff, 3}, {0x7ff4000000000000, 3},
	} {
		for _, neg := range signs {
			if got := Class(signed(neg, c.a)); got != c.want {
				t.Errorf("P6.1: Class(%#x) = %d, want %d", signed(neg, c.a), got, c.want)
			}
		}
	}
}

func TestClassAsTheMachine(t *testing.T) {
	for _, a := range samples(20000) {
		v, want := math.Float64frombits(a), 1
		switch {
		case v != v:
			want = 3
		case math.IsInf(v, 0):
			want = 2
		case v == 0:
			want = 0
		}
		if got := Class(a); got != want {
			t.Fatalf("P6.1: Class(%#x) = %d, want %d", a, got, want)
		}
	}
}

func TestSplitWrittenOut(t *testing.T) {
	for _, c := range []struct {
		a, m uint64
		x    int
	}{
		{one, 1 << 52, -52}, // the chapter's example
		{0, 0, -1074}, {1, 1, -1074}, {2, 2, -1074}, {0x0008000000000001, 1<<51 + 1, -1074}, {least - 1, 1<<52 - 1, -1074},
		{least, 1 << 52, -1074}, {least + 1, 1<<52 + 1, -1074}, {0x001fffffffffffff, 1<<53 - 1, -1074}, {0x0020000000000000, 1 << 52, -1073},
		{0x4008000000000000, 3 << 51, -51}, {0x3fefffffffffffff, 1<<53 - 1, -53}, {0x7fe0000000000000, 1 << 52, 971}, {great, 1<<53 - 1, 971},
	} {
		for _, neg := range signs {
			a := signed(neg, c.a)
			if gotNeg, m, x, err := Split(a); gotNeg != neg || m != c.m || x != c.x || err != api.OK {
				t.Errorf("P6.1: Split(%#x) = %v, %#x, %d, error %d; want %v, %#x, %d", a, gotNeg, m, x, err, neg, c.m, c.x)
			}
		}
	}
}

// P6.1, P4: of others than finite numbers and zeros Split tells ErrKind, and
// nothing beside it.
func TestSplitWrong(t *testing.T) {
	s := source(3)
	bad := []uint64{inf, inf + 1, api.NaN, api.NaN - 1, api.NaN + 1, 0x7fffffffffffffff, 0x7ff4000000000000}
	for range 500 {
		bad = append(bad, inf|s.word()>>12, inf|1<<s.below(52))
	}
	for _, a := range bad {
		for _, neg := range signs {
			if gotNeg, m, x, err := Split(signed(neg, a)); gotNeg || m != 0 || x != 0 || err != api.ErrKind {
				t.Errorf("P6.1: Split(%#x) = %v, %#x, %d, error %d", signed(neg, a), gotNeg, m, x, err)
			}
		}
	}
}

func TestInfAndZero(t *testing.T) {
	if Inf(false) != inf || Inf(true) != sign|inf {
		t.Errorf("P6.1: Inf is %#x and %#x", Inf(false), Inf(true))
	}
	if Zero(false) != 0 || Zero(true) != sign {
		t.Errorf("P6.1: Zero is %#x and %#x", Zero(false), Zero(true))
	}
}

// P6.1: what the chapter says of rounding, on numbers written out here.

// rounding is hi, lo, exp, more, and what is wanted of it in the directions 0
// to 4 with the sign +.
type rounding struct {
	hi, lo uint64
	exp    int
	more   bool
	want   [5]uint64
	flags  [5]int
}

// all is the same five times.
func all[T any](a T) [5]T { return [5]T{a, a, a, a, a} }

// hold holds Round, of both signs, in all directions, against what is wanted.
func (c rounding) hold(t *testing.T) {
	t.Helper()
	for _, mode := range modes {
		d := direction(mode)
		holdRound(t, false, c.hi, c.lo, c.exp, c.more, mode, c.want[d], c.flags[d])
		d = mirrored(d)
		holdRound(t, true, c.hi, c.lo, c.exp, c.more, mode, c.want[d]|sign, c.flags[d])
	}
}

func TestRoundExact(t *testing.T) {
	for _, c := range []rounding{
		{0, 1, 0, false, all(one), all(0)}, {0, 1 << 52, -52, false, all(one), all(0)}, {0, sign, -63, false, all(one), all(0)},
		{1, 0, -64, false, all(one), all(0)}, {sign, 0, -127, false, all(one), all(0)}, {1 << 10, 0, -74, false, all(one), all(0)},
		{0, 3, 0, false, all(uint64(0x4008000000000000)), all(0)}, {0, 3, 1, false, all(uint64(0x4018000000000000)), all(0)},
		// The significand lies in both words.
		{1, 1 << 12, -64, false, all(one + 1), all(0)}, {1<<52 - 1, sign, -116, false, all(one - 1), all(0)}, {1<<52 - 1, 0, -116, false, all(one - 2), all(0)},
		{top &^ (1<<11 - 1), 0, -128, false, all(one - 1), all(0)},
		// The smallest and the greatest of e 0, the smallest of e 1, the greatest.
		{0, 1, -1074, false, all(uint64(1)), all(0)}, {0, 1 << 52, -1126, false, all(uint64(1)), all(0)}, {1, 0, -1138, false, all(uint64(1)), all(0)}, {sign, 0, -1201, false, all(uint64(1)), all(0)},
		{0, 1<<52 - 1, -1074, false, all(least - 1), all(0)}, {0, (1<<52 - 1) << 12, -1086, false, all(least - 1), all(0)},
		{0, 1, -1022, false, all(least), all(0)}, {0, 1<<53 - 1, -1074, false, all(least*2 - 1), all(0)},
		{0, 1<<53 - 1, 971, false, all(great), all(0)}, {top &^ (1<<11 - 1), 0, 896, false, all(great), all(0)}, {0, 1, 1023, false, all(uint64(0x7fe0000000000000)), all(0)},
	} {
		c.hold(t)
	}
}

func TestRoundNearHalf(t *testing.T) {
	for _, c := range []rounding{
		// Halfway, the lower one even, and odd.
		{0, 1<<53 + 1, -53, false, [5]uint64{one, one + 1, one, one + 1, one}, all(lost)},
		{0, 1<<53 + 3, -53, false, [5]uint64{one + 2, one + 2, one + 1, one + 2, one + 1}, all(lost)},
		{1, 1 << 11, -64, false, [5]uint64{one, one + 1, one, one + 1, one}, all(lost)},
		{1, 3 << 11, -64, false, [5]uint64{one + 2, one + 2, one + 1, one + 2, one + 1}, all(lost)},
		{sign, 1 << 63, -127, false, [5]uint64{one, one, one, one + 1, one}, all(lost)},
		{sign | 1<<10, 0, -127, false, [5]uint64{one, one + 1, one, one + 1, one}, all(lost)},
		{sign | 3<<10, 0, -127, false, [5]uint64{one + 2, one + 2, one + 1, one + 2, one + 1}, all(lost)},
		// Just below halfway, and just above.
		{0, 1<<54 + 1, -54, false, [5]uint64{one, one, one, one + 1, one}, all(lost)},
		{0, 1<<54 + 3, -54, false, [5]uint64{one + 1, one + 1, one, one + 1, one}, all(lost)},
		{0, sign | 1<<10 - 1, -63, false, [5]uint64{one, one, one, one + 1, one}, all(lost)},
		{0, sign | 1<<10 + 1, -63, false, [5]uint64{one + 1, one + 1, one, one + 1, one}, all(lost)},
		{sign | 1<<10 - 1, top, -127, false, [5]uint64{one, one, one, one + 1, one}, all(lost)},
		{sign | 1<<10, 1, -127, false, [5]uint64{one + 1, one + 1, one, one + 1, one}, all(lost)},
		{sign | 3<<10 - 1, top, -127, false, [5]uint64{one + 1, one + 1, one + 1, one + 2, one + 1}, all(lost)},
		{sign, 1, -127, false, [5]uint64{one, one, one, one + 1, one}, all(lost)},
		{sign | 1<<11 - 1, top, -127, false, [5]uint64{one + 1, one + 1, one, one + 1, one}, all(lost)},
		// Up to the next power of two.
		{0, 1<<54 - 1, -54, false, [5]uint64{one, one, one - 1, one, one - 1}, all(lost)},
		{0, top, -64, false, [5]uint64{one, one, one - 1, one, one - 1}, all(lost)},
		{top, top, -128, false, [5]uint64{one, one, one - 1, one, one - 1}, all(lost)},
		{0, 1<<55 - 3, -55, false, [5]uint64{one - 1, one - 1, one - 1, one, one - 1}, all(lost)},
	} {
		c.hold(t)
	}
}

func TestRoundSmall(t *testing.T) {
	for _, c := range []rounding{
		// Below half of the smallest number, half of it, and above.
		{0, 1, -1076, false, [5]uint64{0, 0, 0, 1, 0}, all(tiny)}, {0, 1, -most, false, [5]uint64{0, 0, 0, 1, 0}, all(tiny)}, {top, top, -most, false, [5]uint64{0, 0, 0, 1, 0}, all(tiny)},
		{0, 1<<60 - 1, -1135, false, [5]uint64{0, 0, 0, 1, 0}, all(tiny)}, {sign - 1, top, -1202, false, [5]uint64{0, 0, 0, 1, 0}, all(tiny)}, {0, sign, -1139, false, [5]uint64{0, 0, 0, 1, 0}, all(tiny)},
		{0, 1, -1075, false, [5]uint64{0, 1, 0, 1, 0}, all(tiny)}, {0, sign, -1138, false, [5]uint64{0, 1, 0, 1, 0}, all(tiny)}, {sign, 0, -1202, false, [5]uint64{0, 1, 0, 1, 0}, all(tiny)},
		{0, 3, -1076, false, [5]uint64{1, 1, 0, 1, 0}, all(tiny)}, {0, sign + 1, -1138, false, [5]uint64{1, 1, 0, 1, 0}, all(tiny)}, {sign, 1, -1202, false, [5]uint64{1, 1, 0, 1, 0}, all(tiny)},
		{top, top, -1202, false, [5]uint64{1, 1, 0, 1, 0}, all(tiny)},
		// Between the smallest ones.
		{0, 3, -1075, false, [5]uint64{2, 2, 1, 2, 1}, all(tiny)}, {0, 5, -1075, false, [5]uint64{2, 3, 2, 3, 2}, all(tiny)}, {0, 5, -1076, false, [5]uint64{1, 1, 1, 2, 1}, all(tiny)}, {0, 7, -1076, false, [5]uint64{2, 2, 1, 2, 1}, all(tiny)},
		// From below 2^-1022 to it: Underflow asks what was there ahead.
		{0, 1<<53 - 1, -1075, false, [5]uint64{least, least, least - 1, least, least - 1}, all(tiny)},
		{0, top, -1086, false, [5]uint64{least, least, least - 1, least, least - 1}, all(tiny)}, {top, top, -1150, false, [5]uint64{least, least, least - 1, least, least - 1}, all(tiny)},
		{0, 1<<54 - 3, -1076, false, [5]uint64{least - 1, least - 1, least - 1, least, least - 1}, all(tiny)},
		// 2^-1022 and above it: no Underflow.
		{0, 1<<53 + 1, -1075, false, [5]uint64{least, least + 1, least, least + 1, least}, all(lost)}, {sign, 1, -1149, false, [5]uint64{least, least, least, least + 1, least}, all(lost)},
		{0, 1<<54 - 1, -1075, false, [5]uint64{2 * least, 2 * least, 2*least - 1, 2 * least, 2*least - 1}, all(lost)},
	} {
		c.hold(t)
	}
}

func TestRoundGreat(t *testing.T) {
	for _, c := range []rounding{
		// To 2^1024 from below: only where it is the rounded one, Overflow.
		{0, 1<<54 - 1, 970, false, [5]uint64{inf, inf, great, inf, great}, [5]int{over, over, lost, over, lost}},
		{0, top, 960, false, [5]uint64{inf, inf, great, inf, great}, [5]int{over, over, lost, over, lost}},
		{top, top, 896, false, [5]uint64{inf, inf, great, inf, great}, [5]int{over, over, lost, over, lost}},
		{0, 1<<55 - 3, 969, false, [5]uint64{great, great, great, inf, great}, [5]int{lost, lost, lost, over, lost}},
		{top&^(1<<11-1) | 1<<10 - 1, top, 896, false, [5]uint64{great, great, great, inf, great}, [5]int{lost, lost, lost, over, lost}},
		{top&^(1<<11-1) | 1<<10, 0, 896, false, [5]uint64{inf, inf, great, inf, great}, [5]int{over, over, lost, over, lost}},
		{top &^ (1<<11 - 1), 1, 896, false, [5]uint64{great, great, great, inf, great}, [5]int{lost, lost, lost, over, lost}},
		// 2^1024 itself, and above it: Overflow in each direction.
		{0, 1, 1024, false, [5]uint64{inf, inf, great, inf, great}, all(over)}, {0, 1 << 53, 971, false, [5]uint64{inf, inf, great, inf, great}, all(over)}, {sign, 0, 897, false, [5]uint64{inf, inf, great, inf, great}, all(over)},
		{0, 1<<53 + 1, 971, false, [5]uint64{inf, inf, great, inf, great}, all(over)}, {sign, 1, 897, false, [5]uint64{inf, inf, great, inf, great}, all(over)}, {0, 3, 1023, false, [5]uint64{inf, inf, great, inf, great}, all(over)},
		{0, 1, 2000, false, [5]uint64{inf, inf, great, inf, great}, all(over)}, {0, 1, 5120, false, [5]uint64{inf, inf, great, inf, great}, all(over)}, {top, top, most, true, [5]uint64{inf, inf, great, inf, great}, all(over)},
	} {
		c.hold(t)
	}
	// An exponent that is a power of two too great has nothing in its lower bits.
	for exp := 1024; exp <= most; exp++ {
		holdRound(t, false, 0, 1, exp, false, api.NearEven, inf, over)
		holdRound(t, true, 0, 1<<52|1, exp, false, api.Up, great|sign, over)
	}
}

func TestRoundMore(t *testing.T) {
	for _, c := range []rounding{
		// From 2^54 on it counts, whatever exp is.
		{0, 1 << 54, -54, true, [5]uint64{one, one, one, one + 1, one}, all(lost)}, {0, 1<<54 + 2, -54, true, [5]uint64{one + 1, one + 1, one, one + 1, one}, all(lost)},
		{0, 1<<54 + 1, -54, true, [5]uint64{one, one, one, one + 1, one}, all(lost)}, {0, 1<<54 + 3, -54, true, [5]uint64{one + 1, one + 1, one, one + 1, one}, all(lost)},
		{0, 1<<54 + 4, -54, true, [5]uint64{one + 1, one + 1, one + 1, one + 2, one + 1}, all(lost)}, {0, 1<<55 - 2, -55, true, [5]uint64{one, one, one - 1, one, one - 1}, all(lost)},
		{1, 0, -64, true, [5]uint64{one, one, one, one + 1, one}, all(lost)}, {1, 1 << 11, -64, true, [5]uint64{one + 1, one + 1, one, one + 1, one}, all(lost)}, {1, 1<<11 - 1, -64, true, [5]uint64{one, one, one, one + 1, one}, all(lost)},
		{sign | 1<<10, 0, -127, true, [5]uint64{one + 1, one + 1, one, one + 1, one}, all(lost)}, {sign, 0, -127, true, [5]uint64{one, one, one, one + 1, one}, all(lost)}, {0, sign | 1<<10, -63, true, [5]uint64{one + 1, one + 1, one, one + 1, one}, all(lost)},
		{0, 1 << 54, -1079, true, [5]uint64{1 << 49, 1 << 49, 1 << 49, 1<<49 + 1, 1 << 49}, all(tiny)}, {0, 1 << 54, -1076, true, [5]uint64{least, least, least, least + 1, least}, all(lost)},
		{0, 1<<55 - 4, 969, true, [5]uint64{great, great, great, inf, great}, [5]int{lost, lost, lost, over, lost}}, {0, 1<<55 - 2, 969, true, [5]uint64{inf, inf, great, inf, great}, [5]int{over, over, lost, over, lost}},
		// Below 2^54 it doesn't, though it would be of matter.
		{0, 1, 0, true, all(one), all(0)}, {0, 1 << 53, -53, true, all(one), all(0)}, {0, 1<<54 - 2, -54, true, all(one - 1), all(0)},
		{0, 1<<53 + 1, -53, true, [5]uint64{one, one + 1, one, one + 1, one}, all(lost)}, {0, 1<<54 - 1, -54, true, [5]uint64{one, one, one - 1, one, one - 1}, all(lost)},
		{0, 1, -1074, true, all(uint64(1)), all(0)}, {0, 1 << 53, -1075, true, all(least), all(0)}, {0, 1, 1023, true, all(uint64(0x7fe0000000000000)), all(0)},
		// But with exp at most -1080 it does again.
		{0, 32, -1079, true, all(uint64(1)), all(0)}, {0, 16, -1079, true, [5]uint64{0, 1, 0, 1, 0}, all(tiny)}, {0, 48, -1079, true, [5]uint64{2, 2, 1, 2, 1}, all(tiny)}, {0, 1<<54 - 32, -1079, true, all(uint64(1<<49 - 1)), all(0)},
		{0, 64, -1080, true, [5]uint64{1, 1, 1, 2, 1}, all(tiny)}, {0, 32, -1080, true, [5]uint64{1, 1, 0, 1, 0}, all(tiny)}, {0, 32, -1080, false, [5]uint64{0, 1, 0, 1, 0}, all(tiny)}, {0, 31, -1080, true, [5]uint64{0, 0, 0, 1, 0}, all(tiny)},
		{0, 160, -1080, true, [5]uint64{3, 3, 2, 3, 2}, all(tiny)}, {0, 160, -1080, false, [5]uint64{2, 3, 2, 3, 2}, all(tiny)}, {0, 1<<54 - 64, -1080, true, [5]uint64{1<<48 - 1, 1<<48 - 1, 1<<48 - 1, 1 << 48, 1<<48 - 1}, all(tiny)},
		{0, 128, -1081, true, [5]uint64{1, 1, 1, 2, 1}, all(tiny)}, {0, 64, -1081, true, [5]uint64{1, 1, 0, 1, 0}, all(tiny)}, {0, 1, -1081, true, [5]uint64{0, 0, 0, 1, 0}, all(tiny)}, {0, 1, -1080, true, [5]uint64{0, 0, 0, 1, 0}, all(tiny)},
		{0, 1, -most, true, [5]uint64{0, 0, 0, 1, 0}, all(tiny)}, {sign, 0, -1201, true, [5]uint64{1, 1, 1, 2, 1}, all(tiny)}, {sign, 0, -1202, true, [5]uint64{1, 1, 0, 1, 0}, all(tiny)},
	} {
		c.hold(t)
	}
}

// P6.1: exp beyond its limits is as the nearest, and hi, lo 0 are zero without
// flags, more or not.
func TestRoundEdgesOfExp(t *testing.T) {
	low := []int{-most, -most - 1, -2 * most, math.MinInt32, math.MinInt + 1, math.MinInt}
	high := []int{most, most + 1, 2 * most, math.MaxInt32, math.MaxInt - 1, math.MaxInt}
	for _, words := range [][2]uint64{{0, 1}, {0, top}, {1, 0}, {top, top}, {0, 1<<54 - 1}, {0, 1 << 54}} {
		for _, more := range []bool{false, true} {
			for _, exp := range low {
				rounding{words[0], words[1], exp, more, [5]uint64{0, 0, 0, 1, 0}, all(tiny)}.hold(t)
			}
			for _, exp := range high {
				rounding{words[0], words[1], exp, more, [5]uint64{inf, inf, great, inf, great}, all(over)}.hold(t)
			}
		}
	}
	for _, exp := range append(append(low, high...), 0, 1, -1, 971, 1024, -1074, -1079, -1080, -1081) {
		for _, more := range []bool{false, true} {
			rounding{0, 0, exp, more, all(uint64(0)), all(0)}.hold(t)
		}
	}
}

// P6.1: Round against the chapter's words, taken literally.

// exp makes an exponent, often near one where something changes for a number of
// that many bits.
func (s *source) exp(bits int) int {
	near := []int{0, -most, most, -1080, -1074, 971, -1074 - bits, -1022 - bits, 1024 - bits, -52, -bits}
	exp := near[s.below(len(near))] + s.below(9) - 4
	if s.below(3) == 0 {
		exp = s.below(2300) - 1200 - bits
	}
	return exp
}

func TestRoundAsSaid(t *testing.T) {
	s := source(6)
	for range 200000 {
		hi, lo := s.word(), s.word()
		if s.below(2) == 0 {
			hi = 0
		}
		exp := s.exp(natural([]uint64{lo, hi}).BitLen())
		neg, more, mode := s.below(2) == 0, s.below(2) == 0, modes[s.below(len(modes))]
		v, low := withMore(hi, lo, exp, more)
		want, flags := rounded(neg, v, low, mode)
		holdRound(t, neg, hi, lo, exp, more, mode, want, flags)
		if t.Failed() {
			return
		}
	}
}

// The words again, but by a program that rounds by itself: whole numbers as
// the machine's own, and any, to the nearest even, by math/big.
func TestRoundAsOthers(t *testing.T) {
	s := source(7)
	for range 50000 {
		hi, lo := s.word(), s.word()
		if got, _ := Round(false, 0, lo, 0, false, api.NearEven); got != math.Float64bits(float64(lo)) {
			t.Fatalf("P6.1: Round of %#x = %#x, float64 of it %#x", lo, got, math.Float64bits(float64(lo)))
		}
		v := natural([]uint64{lo, hi})
		exp := s.exp(v.BitLen())
		exact := new(big.Float).SetMantExp(new(big.Float).SetInt(v), exp)
		want, _ := exact.Float64()
		if got, _ := Round(false, hi, lo, exp, false, api.NearEven); got != math.Float64bits(want) {
			t.Fatalf("P6.1: Round of %#x, %#x, exp %d = %#x, math/big's %#x", hi, lo, exp, got, math.Float64bits(want))
		}
	}
}

// What follows from the directions: toward zero is not farther from it than
// the nearest, up not below down, and these two are neighbours or the same.
func TestRoundDirectionsFit(t *testing.T) {
	s := source(8)
	for range 30000 {
		hi, lo := s.word(), s.word()
		exp := s.exp(natural([]uint64{lo, hi}).BitLen())
		var got [5]uint64
		var flags [5]int
		for mode := range got {
			got[mode], flags[mode] = Round(false, hi, lo, exp, false, mode)
		}
		gap := got[3] - got[4]
		if got[2] != got[4] || gap > 1 || got[0]-got[4] > gap || got[1]-got[4] > gap || (gap == 0) != (flags[3] == 0) {
			t.Fatalf("P6.1: Round of %#x, %#x, exp %d: %#x, flags %v", hi, lo, exp, got, flags)
		}
	}
}

// P6.1: Exact.

func TestExactWrittenOut(t *testing.T) {
	for _, c := range []struct {
		m    uint64
		exp  int
		want uint64
	}{
		{1, 0, one}, {1 << 52, -52, one}, {3, -1, 0x3ff8000000000000}, {1<<53 - 1, -53, one - 1},
		// Zeros at the lower end.
		{sign, -63, one}, {3 << 62, -63, 0x3ff8000000000000}, {(1<<53 - 1) << 11, -64, one - 1}, {(1<<53 - 1) << 11, 960, great}, {sign, -1137, 1}, {sign, 960, 0x7fe0000000000000}, {1 << 6, -1080, 1}, {6, -1075, 3},
		// 0.
		{0, 0, 0}, {0, most, 0}, {0, -most, 0}, {0, 971, 0}, {0, -1075, 0},
		// The edges.
		{1, -1074, 1}, {1<<52 - 1, -1074, least - 1}, {1, -1022, least}, {1 << 52, -1074, least}, {1<<53 - 1, 971, great}, {1, 1023, 0x7fe0000000000000},
	} {
		for _, neg := range signs {
			if got, ok := Exact(neg, c.m, c.exp); got != signed(neg, c.want) || !ok {
				t.Errorf("P6.1: Exact(%v, %#x, %d) = %#x, %v; want %#x", neg, c.m, c.exp, got, ok, signed(neg, c.want))
			}
		}
	}
}

// P6.1, P4: what is no number without rounding is 0 and false, and so is an
// exp beyond its limits, of 0 too.
func TestExactNone(t *testing.T) {
	type number struct {
		m   uint64
		exp int
	}
	none := []number{
		{1<<53 + 1, 0}, {1<<53 + 1, -53}, {1<<54 - 1, -54}, {top, 0}, {top, -64}, {sign | 1, -63}, {1<<54 + 2, 5},
		{1, -1075}, {3, -1075}, {1, -1076}, {1<<53 - 1, -1075}, {1, -most}, {sign, -1138}, {top, -most},
		{1, 1024}, {1 << 53, 971}, {1<<54 - 1, 970}, {1<<53 - 1, 972}, {sign, 961}, {3, 1023}, {1, most}, {sign, most}, {1, 5120},
	}
	for _, exp := range []int{most + 1, -most - 1, 2 * most, -2 * most, math.MaxInt, math.MinInt} {
		none = append(none, number{0, exp}, number{1, exp}, number{sign, exp}, number{top, exp})
	}
	for _, c := range none {
		for _, neg := range signs {
			if got, ok := Exact(neg, c.m, c.exp); got != 0 || ok {
				t.Errorf("P6.1: Exact(%v, %#x, %d) = %#x, %v", neg, c.m, c.exp, got, ok)
			}
		}
	}
}

func TestExactAsSaid(t *testing.T) {
	s := source(9)
	for range 100000 {
		m := s.word()
		if s.below(2) == 0 {
			m = m >> 11 << s.below(12)
		}
		neg, exp := s.below(2) == 0, s.exp(natural([]uint64{m}).BitLen())
		want, flags := rounded(neg, natural([]uint64{m}), exp, api.ToZero)
		ok := flags == 0 && -most <= exp && exp <= most
		if !ok {
			want = 0
		}
		if got, gotOK := Exact(neg, m, exp); got != want || gotOK != ok {
			t.Fatalf("P6.1: Exact(%v, %#x, %d) = %#x, %v; want %#x, %v", neg, m, exp, got, gotOK, want, ok)
		}
	}
}

// P6.1: Wide.

// power is limbs of that many, of which the bit is set.
func power(bit, count int) []uint64 {
	limbs := make([]uint64, count)
	limbs[bit/64] |= 1 << (bit % 64)
	return limbs
}

// ones is limbs of that many, of bits 1.
func ones(count int) []uint64 { return slices.Repeat([]uint64{top}, count) }

// wide is a call's arguments, and what is wanted of it in the directions 0 to
// 4 with the sign +.
type wide struct {
	abs   []uint64
	exp   int
	want  [5]uint64
	flags [5]int
}

func (c wide) hold(t *testing.T) {
	t.Helper()
	for _, neg := range signs {
		for _, mode := range modes {
			d := direction(mode)
			if neg {
				d = mirrored(d)
			}
			want := signed(neg, c.want[d])
			if got, flags, err := Wide(neg, c.abs, c.exp, mode); got != want || flags != c.flags[d] || err != api.OK {
				t.Errorf("P6.1: Wide(%v, %d limbs, %d, %d) = %#x, flags %d, error %d; want %#x, flags %d", neg, len(c.abs), c.exp, mode, got, flags, err, want, c.flags[d])
			}
		}
	}
}

func TestWideWrittenOut(t *testing.T) {
	small, large := [5]uint64{0, 0, 0, 1, 0}, [5]uint64{inf, inf, great, inf, great}
	above := [5]uint64{one, one, one, one + 1, one}
	for _, c := range []wide{
		{[]uint64{1}, 0, all(one), all(0)}, {[]uint64{0, 1}, -64, all(one), all(0)}, {[]uint64{0, 0, 1}, -128, all(one), all(0)}, {power(64*full-1, full), -64*full + 1 + widest, large, all(over)},
		// Zeros at the end.
		{[]uint64{1, 0}, 0, all(one), all(0)}, {[]uint64{0, 1, 0, 0, 0}, -64, all(one), all(0)}, {power(130, full), -130, all(one), all(0)}, {power(0, full), 0, all(one), all(0)},
		// What stands below two limbs, however far.
		{[]uint64{1, 0, 1}, -128, above, all(lost)}, {[]uint64{0, 1, 0, sign}, -255, above, all(lost)}, {[]uint64{sign, 0, 0, 0, 1}, -256, above, all(lost)}, {[]uint64{0, 1, 0, 0, 1, 0, 0}, -256, above, all(lost)},
		{[]uint64{0, 0, 1 << 11, 1}, -192, [5]uint64{one, one + 1, one, one + 1, one}, all(lost)}, {[]uint64{1, 0, 1 << 11, 1}, -192, [5]uint64{one + 1, one + 1, one, one + 1, one}, all(lost)},
		{[]uint64{0, 0, 3 << 11, 1}, -192, [5]uint64{one + 2, one + 2, one + 1, one + 2, one + 1}, all(lost)}, {[]uint64{top, top, 1<<11 - 1, 1}, -192, above, all(lost)},
		{ones(5), -320, [5]uint64{one, one, one - 1, one, one - 1}, all(lost)}, {ones(500), -32000, [5]uint64{one, one, one - 1, one, one - 1}, all(lost)},
		{append(power(0, 400), 1, 0, 0), -25600, above, all(lost)}, {append(power(12800, 400), 1), -25600, above, all(lost)}, {append(power(25599, 400), 1), -25600, all(uint64(0x3ff8000000000000)), all(0)},
		// Overflow from below, and the smallest.
		{ones(16), 0, [5]uint64{inf, inf, great, inf, great}, [5]int{over, over, lost, over, lost}}, {append(make([]uint64, 15), top&^(1<<11-1)), 0, all(great), all(0)}, {power(1024, 17), 0, large, all(over)},
		{power(0, 1), -1074, all(uint64(1)), all(0)}, {power(64*3, 4), -1266, all(uint64(1)), all(0)}, {power(31694, 600), -widest, all(uint64(1)), all(0)}, {power(31693, 600), -widest, [5]uint64{0, 1, 0, 1, 0}, all(tiny)}, {power(31692, 600), -widest, small, all(tiny)},
		// exp at its limits, and the most limbs.
		{[]uint64{1}, -widest, small, all(tiny)}, {[]uint64{top, top}, -widest, small, all(tiny)}, {[]uint64{1}, widest, large, all(over)}, {ones(full), widest, large, all(over)}, {ones(full), -widest, large, all(over)}, {ones(full), 0, large, all(over)},
		{power(64*full-1, full), -widest, large, all(over)}, {power(0, full), -widest, small, all(tiny)}, {power(0, full), widest, large, all(over)}, {power(widest, full), -widest, all(one), all(0)},
		{power(widest+1023, full), -widest, all(uint64(0x7fe0000000000000)), all(0)}, {power(widest+1024, full), -widest, large, all(over)},
	} {
		c.hold(t)
	}
}

// P6.1: 0 is zero, with the sign and without flags, in any form.
func TestWideZero(t *testing.T) {
	for _, abs := range [][]uint64{nil, {}, {0}, {0, 0}, {0, 0, 0}, make([]uint64, full)} {
		for _, exp := range []int{0, 1, -1, -1080, 2000, -widest, widest} {
			wide{abs, exp, all(uint64(0)), all(0)}.hold(t)
		}
	}
}

// P6.1, P4: ErrRange, and nothing beside it. Zeros at the end count as limbs.
func TestWideWrong(t *testing.T) {
	type pair struct {
		abs []uint64
		exp int
	}
	var bad []pair
	for _, abs := range [][]uint64{make([]uint64, full+1), ones(full + 1), power(0, full+1), power(64*full, full+1), make([]uint64, 3*full), ones(3 * full)} {
		for _, exp := range []int{0, -64 * full, -widest, widest, widest + 1} {
			bad = append(bad, pair{abs, exp})
		}
	}
	for _, abs := range [][]uint64{nil, {}, {0}, {1}, {0, 0, 1}, ones(full)} {
		for _, exp := range []int{widest + 1, -widest - 1, 2 * widest, -2 * widest, math.MaxInt, math.MinInt} {
			bad = append(bad, pair{abs, exp})
		}
	}
	for _, c := range bad {
		for _, neg := range signs {
			for _, mode := range modes {
				if got, flags, err := Wide(neg, c.abs, c.exp, mode); got != 0 || flags != 0 || err != api.ErrRange {
					t.Errorf("P6.1: Wide(%v, %d limbs, %d, %d) = %#x, flags %d, error %d", neg, len(c.abs), c.exp, mode, got, flags, err)
				}
			}
		}
	}
}

// limbs makes up to count limbs, at the end of which zeros come up often.
func (s *source) limbs(count int) []uint64 {
	out := make([]uint64, s.below(count+1))
	for i := range out {
		out[i] = s.word()
		if s.below(3) == 0 {
			out[i] = 0
		}
	}
	return out
}

func TestWideAsSaid(t *testing.T) {
	s := source(10)
	for i := range 40000 {
		count := 7
		if i%20 == 0 {
			count = 530
		}
		abs := s.limbs(count)
		neg, mode := s.below(2) == 0, modes[s.below(len(modes))]
		exp := s.exp(natural(abs).BitLen())
		if exp < -widest || exp > widest {
			continue
		}
		want, wantFlags := rounded(neg, natural(abs), exp, mode)
		if got, flags, err := Wide(neg, abs, exp, mode); got != want || flags != wantFlags || err != api.OK {
			t.Fatalf("P6.1: Wide(%v, %#x, %d, %d) = %#x, flags %d, error %d; want %#x, flags %d", neg, abs, exp, mode, got, flags, err, want, wantFlags)
		}
	}
}

// P6.2: what is split, put together, is the number.

// samples are numbers' bits: the edges of each exponent, and mixed ones.
func samples(count int) []uint64 {
	var out []uint64
	for e := range uint64(2048) {
		for _, f := range []uint64{0, 1, 2, 1 << 51, 1<<51 - 1, 1<<52 - 2, 1<<52 - 1} {
			out = append(out, e<<52|f, sign|e<<52|f)
		}
	}
	s := source(count)
	for range count {
		out = append(out, s.next(), s.word())
	}
	return out
}

func TestPutTogether(t *testing.T) {
	for _, a := range samples(20000) {
		neg, m, x, err := Split(a)
		if Class(a) >= 2 {
			continue
		}
		if err != api.OK || m >= 1<<53 || x < -1074 || x > 971 || m < 1<<52 && x != -1074 {
			t.Fatalf("P6.2: Split(%#x) = %v, %#x, %d, error %d", a, neg, m, x, err)
		}
		if got, ok := Exact(neg, m, x); got != a || !ok {
			t.Fatalf("P6.2: %#x, split and put together by Exact, is %#x, %v", a, got, ok)
		}
		for _, mode := range modes {
			if got, flags := Round(neg, 0, m, x, false, mode); got != a || flags != 0 {
				t.Fatalf("P6.2: %#x, split and put together by Round, is %#x, flags %d", a, got, flags)
			}
			if got, flags, err := Wide(neg, []uint64{m, 0}, x, mode); got != a || flags != 0 || err != api.OK {
				t.Fatalf("P6.2: %#x, split and put together by Wide, is %#x, flags %d, error %d", a, got, flags, err)
			}
		}
	}
}

// As the machine puts them together.
func TestSplitAsTheMachine(t *testing.T) {
	for _, a := range samples(20000) {
		neg, m, x, err := Split(a)
		v := math.Ldexp(float64(m), x)
		if Class(a) < 2 && (err != api.OK || signed(neg, math.Float64bits(v)) != a) {
			t.Fatalf("P6.2: Split(%#x) = %v, %#x, %d, error %d", a, neg, m, x, err)
		}
	}
}

// P6.3: what is handed in stays as it is, up to its capacity, and isn't kept.
func TestWideLeavesAbs(t *testing.T) {
	s := source(12)
	for range 3000 {
		limbs := append(s.limbs(9), 11, 22, 33)
		if s.below(50) == 0 {
			limbs = append(ones(full), limbs...)
		}
		abs, kept := limbs[:len(limbs)-3], slices.Clone(limbs)
		neg, mode, exp := s.below(2) == 0, s.below(5), s.exp(64*len(abs))
		got, flags, err := Wide(neg, abs, exp, mode)
		if !slices.Equal(limbs, kept) {
			t.Fatalf("P6.3: Wide changes %#x", kept)
		}
		// Other limbs in the same memory, and the first ones again in another:
		// each is told as if nothing had been ahead.
		for i := range limbs {
			limbs[i] = ^limbs[i]
		}
		changed, changedFlags, changedErr := Wide(neg, abs, exp, mode)
		fresh, freshFlags, freshErr := Wide(neg, slices.Clone(abs), exp, mode)
		if changed != fresh || changedFlags != freshFlags || changedErr != freshErr {
			t.Fatalf("P6.3: Wide keeps what was in %#x", kept)
		}
		again, againFlags, againErr := Wide(neg, kept[:len(kept)-3], exp, mode)
		if again != got || againFlags != flags || againErr != err {
			t.Fatalf("P6.3: Wide of %#x is another thing the second time", kept)
		}
	}
}
