package fconv

import (
	"math"
	"math/big"
	"slices"
	"testing"

	"vernier/api"
)

const (
	farthest = 1 << 62 // how far from 0 ToInt tells
	most     = 1 << 14 // the greatest Exp
	full     = 1 << 10 // the most limbs
)

// of is the number that the machine tells.
var of = math.Float64bits

// P13.1: FromInt.

// holdFromInt holds FromInt's answer against the one that is wanted.
func holdFromInt(t *testing.T, n int, mode int, want uint64, wantFlags int) {
	t.Helper()
	if got, flags := FromInt(n, mode); got != want || flags != wantFlags {
		t.Errorf("P13.1: FromInt(%d, %d) = %#x, flags %d; want %#x, flags %d", n, mode, got, flags, want, wantFlags)
	}
}

func TestFromIntWrittenOut(t *testing.T) {
	p53, p54, p62, p63 := power(53), power(54), power(62), power(63)
	for _, c := range []struct {
		n     int
		want  [5]uint64
		flags int
	}{
		{1, all(one), 0}, {2, all(of(2)), 0}, {3, all(of(3)), 0}, {10, all(of(10)), 0}, {1<<52 + 1, all(power(52) + 1), 0}, {1<<53 - 1, all(p53 - 1), 0}, {1 << 53, all(p53), 0}, {1<<53 + 2, all(p53 + 1), 0}, {1 << 62, all(p62), 0}, {1<<62 + 1<<10, all(p62 + 1), 0}, {math.MaxInt - 1023, all(p63 - 1), 0},
		// Halves between two numbers, the lower one even, and odd.
		{1<<53 + 1, [5]uint64{p53, p53 + 1, p53, p53 + 1, p53}, lost}, {1<<53 + 3, [5]uint64{p53 + 2, p53 + 2, p53 + 1, p53 + 2, p53 + 1}, lost}, {1<<54 + 2, [5]uint64{p54, p54 + 1, p54, p54 + 1, p54}, lost}, {1<<54 + 6, [5]uint64{p54 + 2, p54 + 2, p54 + 1, p54 + 2, p54 + 1}, lost}, {1<<54 - 1, [5]uint64{p54, p54, p54 - 1, p54, p54 - 1}, lost},
		{1<<62 + 1<<9, [5]uint64{p62, p62 + 1, p62, p62 + 1, p62}, lost}, {1<<62 + 3<<9, [5]uint64{p62 + 2, p62 + 2, p62 + 1, p62 + 2, p62 + 1}, lost},
		// Off them.
		{1<<54 + 1, [5]uint64{p54, p54, p54, p54 + 1, p54}, lost}, {1<<54 + 3, [5]uint64{p54 + 1, p54 + 1, p54, p54 + 1, p54}, lost}, {1<<62 + 1<<9 - 1, [5]uint64{p62, p62, p62, p62 + 1, p62}, lost}, {1<<62 + 1<<9 + 1, [5]uint64{p62 + 1, p62 + 1, p62, p62 + 1, p62}, lost}, {1<<62 - 1, [5]uint64{p62, p62, p62 - 1, p62, p62 - 1}, lost},
		// The greatest int, whose opposite is next to the least.
		{math.MaxInt, [5]uint64{p63, p63, p63 - 1, p63, p63 - 1}, lost}, {math.MaxInt - 511, [5]uint64{p63, p63, p63 - 1, p63, p63 - 1}, lost}, {math.MaxInt - 512, [5]uint64{p63 - 1, p63 - 1, p63 - 1, p63, p63 - 1}, lost},
	} {
		for _, mode := range modes {
			holdFromInt(t, c.n, mode, c.want[direction(mode)], c.flags)
			holdFromInt(t, -c.n, mode, c.want[mirrored(direction(mode))]|sign, c.flags)
		}
	}
	for _, mode := range modes {
		holdFromInt(t, 0, mode, 0, 0)
		holdFromInt(t, math.MinInt, mode, sign|p63, 0)
	}
}

// int makes an int; edges come up often.
func (s *source) int() int {
	n := int(s.next() >> s.below(64))
	switch s.below(4) {
	case 0:
		n = 1<<s.below(64) + s.below(5) - 2
	case 1:
		n = 1<<s.below(64) + 1<<s.below(64) + s.below(3) - 1
	}
	if s.below(2) == 0 {
		return -n
	}
	return n
}

func TestFromIntAsSaid(t *testing.T) {
	s := source(1)
	for range 60000 {
		n, mode := s.int(), modes[s.below(len(modes))]
		want, flags := uint64(0), 0
		if n != 0 {
			want, flags = rounded(n < 0, new(big.Int).Abs(big.NewInt(int64(n))), 0, mode)
		}
		holdFromInt(t, n, mode, want, flags)
		holdFromInt(t, n, api.NearEven, of(float64(n)), lostIn(n))
	}
}

// lostIn is Inexact, if the machine loses bits of n.
func lostIn(n int) int {
	back := new(big.Float).SetFloat64(float64(n))
	if back.Cmp(new(big.Float).SetInt64(int64(n))) != 0 {
		return lost
	}
	return 0
}

// P13.1: Whole and ToInt.

// holdWhole holds Whole's answer against the one that is wanted.
func holdWhole(t *testing.T, a uint64, mode int, want uint64, wantFlags int) {
	t.Helper()
	if got, flags := Whole(a, mode); got != want || flags != wantFlags {
		t.Errorf("P13.1: Whole(%#x, %d) = %#x, flags %d; want %#x, flags %d", a, mode, got, flags, want, wantFlags)
	}
}

// holdToInt holds ToInt's answer against the one that is wanted.
func holdToInt(t *testing.T, a uint64, mode int, want int, wantFlags int) {
	t.Helper()
	if got, flags := ToInt(a, mode); got != want || flags != wantFlags {
		t.Errorf("P13.1: ToInt(%#x, %d) = %d, flags %d; want %d, flags %d", a, mode, got, flags, want, wantFlags)
	}
}

// P13.1: numbers with a fraction, as whole ones and as ints.
func TestWholeWrittenOut(t *testing.T) {
	const p51, p52 = 1 << 51, 1 << 52
	holdToInt(t, of(2.5), 0, 2, api.Inexact) // the chapter's example
	for _, c := range []struct {
		a    uint64
		want [5]int
	}{
		// Below a half, a half, and above.
		{1, [5]int{0, 0, 0, 1, 0}}, {least - 1, [5]int{0, 0, 0, 1, 0}}, {least, [5]int{0, 0, 0, 1, 0}}, {power(-54), [5]int{0, 0, 0, 1, 0}}, {of(0.25), [5]int{0, 0, 0, 1, 0}}, {of(0.3), [5]int{0, 0, 0, 1, 0}}, {of(0.5) - 1, [5]int{0, 0, 0, 1, 0}}, {of(0.5), [5]int{0, 1, 0, 1, 0}}, {of(0.5) + 1, [5]int{1, 1, 0, 1, 0}}, {of(0.75), [5]int{1, 1, 0, 1, 0}}, {one - 1, [5]int{1, 1, 0, 1, 0}},
		{one + 1, [5]int{1, 1, 1, 2, 1}}, {of(1.25), [5]int{1, 1, 1, 2, 1}}, {of(1.5) - 1, [5]int{1, 1, 1, 2, 1}}, {of(1.5), [5]int{2, 2, 1, 2, 1}}, {of(1.5) + 1, [5]int{2, 2, 1, 2, 1}}, {of(2) - 1, [5]int{2, 2, 1, 2, 1}}, {of(2.5) - 1, [5]int{2, 2, 2, 3, 2}}, {of(2.5), [5]int{2, 3, 2, 3, 2}}, {of(2.5) + 1, [5]int{3, 3, 2, 3, 2}}, {of(3.5), [5]int{4, 4, 3, 4, 3}}, {of(4.5), [5]int{4, 5, 4, 5, 4}}, {of(1000000.5), [5]int{1000000, 1000001, 1000000, 1000001, 1000000}},
		// Around 2^51 and 2^52.
		{of(p51 - 0.25), [5]int{p51, p51, p51 - 1, p51, p51 - 1}}, {of(p51 - 0.5), [5]int{p51, p51, p51 - 1, p51, p51 - 1}}, {of(p51 - 0.75), [5]int{p51 - 1, p51 - 1, p51 - 1, p51, p51 - 1}}, {of(p51 + 0.5), [5]int{p51, p51 + 1, p51, p51 + 1, p51}}, {of(p51 + 1.5), [5]int{p51 + 2, p51 + 2, p51 + 1, p51 + 2, p51 + 1}},
		{of(p52 - 0.5), [5]int{p52, p52, p52 - 1, p52, p52 - 1}}, {of(p52 - 1.5), [5]int{p52 - 2, p52 - 1, p52 - 2, p52 - 1, p52 - 2}},
	} {
		for _, mode := range modes {
			n := c.want[direction(mode)]
			holdWhole(t, c.a, mode, of(float64(n)), lost)
			holdToInt(t, c.a, mode, n, lost)
			n = c.want[mirrored(direction(mode))]
			holdWhole(t, c.a|sign, mode, of(float64(n))|sign, lost)
			holdToInt(t, c.a|sign, mode, -n, lost)
		}
	}
}

// P13.1: whole numbers are themselves.
func TestWholeOfWholes(t *testing.T) {
	for _, n := range []int{0, 1, 2, 3, 4, 7, 1000000, 1 << 51, 1<<51 + 1, 1<<52 - 1, 1 << 52, 1<<52 + 1, 1<<52 + 2, 1<<52 + 3, 1<<53 - 1, 1 << 53, 1<<53 + 2, 1<<53 + 6, 1 << 54, 1<<54 + 4, 1<<61 + 1<<9, farthest - 512, farthest} {
		for _, mode := range modes {
			a := of(float64(n))
			holdWhole(t, a, mode, a, 0)
			holdWhole(t, a|sign, mode, a|sign, 0)
			holdToInt(t, a, mode, n, 0)
			holdToInt(t, a|sign, mode, -n, 0)
		}
	}
	for _, a := range []uint64{power(62) + 1, power(63), power(64) - 1, power(64), power(500), power(1023), great - 1, great, inf} {
		for _, mode := range modes {
			holdWhole(t, a, mode, a, 0)
			holdWhole(t, a|sign, mode, a|sign, 0)
		}
	}
}

func TestWholeOfNaN(t *testing.T) {
	for _, nan := range nans {
		for _, mode := range modes {
			holdWhole(t, nan, mode, api.NaN, 0)
		}
	}
}

// P13.1: 0 and Invalid of what is no int from -2^62 to 2^62.
func TestToIntInvalid(t *testing.T) {
	bad := append([]uint64{power(62) + 1, power(63) - 1, power(63), power(63) + 1, power(64), power(65), power(100), power(1023), great, inf}, nans...)
	for _, a := range bad {
		for _, mode := range modes {
			holdToInt(t, a, mode, 0, api.Invalid)
			holdToInt(t, a^sign, mode, 0, api.Invalid)
		}
	}
}

// nearest is the whole number near v times 2^-1074, by the direction, word by
// word as the chapter says it, by another program's whole numbers; and whether
// that is another one.
func nearest(v *big.Int, mode int) (*big.Int, bool) {
	unit := new(big.Int).Lsh(big.NewInt(1), 1074)
	floor, rest := new(big.Int).DivMod(v, unit, new(big.Int))
	if rest.Sign() == 0 {
		return floor, false
	}
	half := rest.Lsh(rest, 1).Cmp(unit)
	up := half > 0
	switch direction(mode) {
	case 0:
		up = up || half == 0 && floor.Bit(0) == 1
	case 1:
		up = up || half == 0 && v.Sign() > 0
	case 2:
		up = v.Sign() < 0
	case 3:
		up = true
	case 4:
		up = false
	}
	if up {
		floor.Add(floor, big.NewInt(1))
	}
	return floor, true
}

// holdNearest holds Whole and ToInt against nearest.
func holdNearest(t *testing.T, a uint64, mode int) {
	t.Helper()
	near, other := nearest(units(a), mode)
	want, flags := a&sign, 0
	if near.Sign() != 0 {
		want, _ = rounded(a&sign != 0, new(big.Int).Abs(near), 0, api.ToZero)
	}
	if other {
		flags = lost
	}
	holdWhole(t, a, mode, want, flags)
	if new(big.Int).Abs(near).Cmp(big.NewInt(farthest)) > 0 {
		holdToInt(t, a, mode, 0, api.Invalid)
		return
	}
	holdToInt(t, a, mode, int(near.Int64()), flags)
}

func TestWholeAsSaid(t *testing.T) {
	for _, a := range edges() {
		for _, mode := range modes {
			if !isNaN(a) && !isInf(a) {
				holdNearest(t, a, mode)
			}
		}
	}
	s := source(2)
	for i := range 60000 {
		a, mode := s.number(), modes[s.below(len(modes))]
		if i%4 > 0 {
			a = a&^inf | uint64(1023-3+s.below(70))<<52
		}
		if !isNaN(a) && !isInf(a) {
			holdNearest(t, a, mode)
		}
		if t.Failed() {
			return
		}
	}
}

// As the machine tells them.
func TestWholeAsTheMachine(t *testing.T) {
	machine := []func(float64) float64{math.RoundToEven, math.Round, math.Trunc, math.Ceil, math.Floor}
	s := source(3)
	for i := range 60000 {
		a := s.number()
		if i%4 > 0 {
			a = a&^inf | uint64(1023-3+s.below(70))<<52
		}
		for mode, f := range machine {
			want := of(f(math.Float64frombits(a)))
			if isNaN(want) {
				want = api.NaN
			}
			if got, _ := Whole(a, mode); got != want {
				t.Fatalf("P13.1: Whole(%#x, %d) = %#x, want %#x", a, mode, got, want)
			}
		}
	}
}

// P13.1: FromDyadic.

// natural is the number that limbs stand for, reckoned by another program.
func natural(limbs []uint64) *big.Int {
	v := new(big.Int)
	for i := len(limbs) - 1; i >= 0; i-- {
		v.Lsh(v, 64)
		v.Or(v, new(big.Int).SetUint64(limbs[i]))
	}
	return v
}

// holdFromDyadic holds FromDyadic's answer against the one that is wanted.
func holdFromDyadic(t *testing.T, a api.Dyadic, mode int, want uint64, wantFlags int, wantErr api.Errno) {
	t.Helper()
	if got, flags, err := FromDyadic(a, mode); got != want || flags != wantFlags || err != wantErr {
		t.Errorf("P13.1: FromDyadic(%v, %d limbs, 2^%d, %d) = %#x, flags %d, error %d; want %#x, flags %d, error %d", a.Neg, len(a.Abs), a.Exp, mode, got, flags, err, want, wantFlags, wantErr)
	}
}

// bit is limbs of that many, of which the bit is set.
func bit(n, count int) []uint64 {
	limbs := make([]uint64, count)
	limbs[n/64] = 1 << (n % 64)
	return limbs
}

func TestFromDyadicWrittenOut(t *testing.T) {
	type limbs = []uint64
	ones := slices.Repeat(limbs{1<<64 - 1}, full)
	small, large := [5]uint64{0, 0, 0, 1, 0}, [5]uint64{inf, inf, great, inf, great}
	p := power(53)
	for _, c := range []struct {
		abs   limbs
		exp   int
		want  [5]uint64
		flags [5]int
	}{
		{nil, 0, all(uint64(0)), all(0)}, {limbs{}, 0, all(uint64(0)), all(0)}, {nil, most, all(uint64(0)), all(0)}, {limbs{0}, -most, all(uint64(0)), all(0)}, {make(limbs, full), 5, all(uint64(0)), all(0)},
		{limbs{1}, 0, all(one), all(0)}, {limbs{3}, 0, all(of(3)), all(0)}, {limbs{12}, -2, all(of(3)), all(0)}, {limbs{3, 0, 0}, 1, all(of(6)), all(0)}, {limbs{0, 1}, 0, all(power(64)), all(0)}, {limbs{1<<53 - 1}, -1074, all(2*least - 1), all(0)}, {limbs{1<<53 - 1}, 971, all(great), all(0)}, {limbs{1}, -1074, all(uint64(1)), all(0)}, {limbs{1}, -1022, all(least), all(0)}, {limbs{1}, 1023, all(power(1023)), all(0)}, {bit(1, full), 0, all(of(2)), all(0)},
		// More bits than are told.
		{limbs{1<<53 + 1}, 0, [5]uint64{p, p + 1, p, p + 1, p}, all(lost)}, {limbs{1<<53 + 3}, 0, [5]uint64{p + 2, p + 2, p + 1, p + 2, p + 1}, all(lost)}, {limbs{1<<54 + 1}, -1, [5]uint64{p, p, p, p + 1, p}, all(lost)}, {limbs{1<<54 + 3}, -1, [5]uint64{p + 1, p + 1, p, p + 1, p}, all(lost)}, {limbs{1, 0, 1}, -128, [5]uint64{one, one, one, one + 1, one}, all(lost)}, {ones[:3], -192, [5]uint64{one, one, one - 1, one, one - 1}, all(lost)}, {ones[:256], -most, [5]uint64{one, one, one - 1, one, one - 1}, all(lost)},
		// Below half of the smallest number, half of it, and above.
		{limbs{1}, -1076, small, all(tiny)}, {limbs{1}, -most, small, all(tiny)}, {limbs{1<<64 - 1, 1<<64 - 1}, -most, small, all(tiny)}, {limbs{1}, -1075, [5]uint64{0, 1, 0, 1, 0}, all(tiny)}, {limbs{3}, -1076, [5]uint64{1, 1, 0, 1, 0}, all(tiny)}, {limbs{1, 1}, -1139, [5]uint64{1, 1, 0, 1, 0}, all(tiny)}, {limbs{1<<53 - 1}, -1075, [5]uint64{least, least, least - 1, least, least - 1}, all(tiny)},
		{bit(most-1074, 300), -most, all(uint64(1)), all(0)}, {bit(most-1075, 300), -most, [5]uint64{0, 1, 0, 1, 0}, all(tiny)}, {bit(most-1076, 300), -most, small, all(tiny)}, {bit(most, full), -most, all(one), all(0)},
		// 2^1024 from below, and above it.
		{limbs{1<<54 - 1}, 970, large, [5]int{over, over, lost, over, lost}}, {ones[:16], 0, large, [5]int{over, over, lost, over, lost}}, {limbs{1<<55 - 3}, 969, [5]uint64{great, great, great, inf, great}, [5]int{lost, lost, lost, over, lost}}, {limbs{1}, 1024, large, all(over)}, {limbs{1}, most, large, all(over)}, {ones, most, large, all(over)}, {ones, -most, large, all(over)}, {ones, 0, large, all(over)}, {bit(most+1023, full), -most, all(power(1023)), all(0)}, {bit(most+1024, full), -most, large, all(over)},
	} {
		for _, mode := range modes {
			d := direction(mode)
			holdFromDyadic(t, api.Dyadic{Abs: c.abs, Exp: c.exp}, mode, c.want[d], c.flags[d], api.OK)
			d = mirrored(d)
			holdFromDyadic(t, api.Dyadic{Neg: true, Abs: c.abs, Exp: c.exp}, mode, c.want[d]|sign, c.flags[d], api.OK)
		}
	}
}

// P13.1, P4: dyadic.Check's error, and nothing beside it.
func TestFromDyadicWrong(t *testing.T) {
	for _, abs := range [][]uint64{nil, {}, {0}, {1}, {1, 1}, bit(3, full), make([]uint64, full+1), bit(0, full+1), bit(64*full, full+1), make([]uint64, 3*full)} {
		for _, exp := range []int{0, most, -most, most + 1, -most - 1, 1 << 20, -1 << 20, math.MaxInt, math.MinInt} {
			if len(abs) <= full && -most <= exp && exp <= most {
				continue
			}
			for _, neg := range signs {
				for _, mode := range modes {
					holdFromDyadic(t, api.Dyadic{Neg: neg, Abs: abs, Exp: exp}, mode, 0, 0, api.ErrState)
				}
			}
		}
	}
}

// limbs makes up to count limbs; zeros come up often.
func (s *source) limbs(count int) []uint64 {
	out := make([]uint64, s.below(count+1))
	for i := range out {
		out[i] = s.next() >> s.below(64)
		switch s.below(4) {
		case 0:
			out[i] = 0
		case 1:
			out[i] = 1<<s.below(64) - uint64(s.below(2))
		}
	}
	return out
}

func TestFromDyadicAsSaid(t *testing.T) {
	s := source(4)
	for i := range 40000 {
		count := 4
		if i%40 == 0 {
			count = 400
		}
		abs := s.limbs(count)
		v := natural(abs)
		// Both ends, and what lies between, of the number's highest bit.
		exp := []int{-1074, -1022, 0, 1023}[s.below(4)] + s.below(120) - 60 - v.BitLen()
		a := api.Dyadic{Neg: s.below(2) == 0, Abs: abs, Exp: min(max(exp, -most), most)}
		mode := modes[s.below(len(modes))]
		want, flags := signed(a.Neg, 0), 0
		if v.Sign() != 0 {
			want, flags = rounded(a.Neg, v, a.Exp, mode)
		}
		holdFromDyadic(t, a, mode, want, flags, api.OK)
		if t.Failed() {
			return
		}
	}
}

// P13.1: ToDyadic.

// holdToDyadic holds ToDyadic's answer against the one that is wanted.
func holdToDyadic(t *testing.T, a uint64, want api.Dyadic, wantErr api.Errno) {
	t.Helper()
	got, err := ToDyadic(a)
	if got.Neg != want.Neg || got.Exp != want.Exp || !slices.Equal(got.Abs, want.Abs) || err != wantErr {
		t.Errorf("P13.1: ToDyadic(%#x) = %v, error %d; want %v, error %d", a, got, err, want, wantErr)
	}
}

func TestToDyadicWrittenOut(t *testing.T) {
	for _, c := range []struct {
		a, odd uint64
		exp    int
	}{
		{one, 1, 0}, {of(2), 1, 1}, {of(3), 3, 0}, {of(12), 3, 2}, {of(0.5), 1, -1}, {of(0.375), 3, -3}, {one + 1, 1<<52 + 1, -52}, {one - 1, 1<<53 - 1, -53}, {power(53), 1, 53}, {power(53) - 1, 1<<53 - 1, 0},
		// Of e 0.
		{1, 1, -1074}, {2, 1, -1073}, {3, 3, -1074}, {12, 3, -1072}, {1 << 51, 1, -1023}, {least - 2, 1<<51 - 1, -1073}, {least - 1, 1<<52 - 1, -1074},
		{least, 1, -1022}, {least + 1, 1<<52 + 1, -1074}, {2*least - 1, 1<<53 - 1, -1074}, {2 * least, 1, -1021}, {power(1023), 1, 1023}, {great - 1, 1<<52 - 1, 972}, {great, 1<<53 - 1, 971},
	} {
		holdToDyadic(t, c.a, api.Dyadic{Abs: []uint64{c.odd}, Exp: c.exp}, api.OK)
		holdToDyadic(t, c.a|sign, api.Dyadic{Neg: true, Abs: []uint64{c.odd}, Exp: c.exp}, api.OK)
	}
	// Of zeros no sign is told.
	holdToDyadic(t, 0, api.Dyadic{}, api.OK)
	holdToDyadic(t, sign, api.Dyadic{}, api.OK)
}

// P13.1, P4: ErrKind, and nothing beside it.
func TestToDyadicWrong(t *testing.T) {
	for _, a := range append([]uint64{inf, sign | inf}, nans...) {
		holdToDyadic(t, a, api.Dyadic{}, api.ErrKind)
	}
}

// P13.2: to a dyadic number, and back, is the number, but for a zero's sign.
func TestThereAndBack(t *testing.T) {
	hold := func(a uint64) {
		t.Helper()
		number, err := ToDyadic(a)
		if isNaN(a) || isInf(a) {
			return
		}
		v := new(big.Int).Abs(units(a))
		if err != api.OK || v.Sign() != 0 && (number.Neg != (a&sign != 0) || number.Abs[0]%2 == 0 || v.Cmp(new(big.Int).Lsh(natural(number.Abs), uint(number.Exp+1074))) != 0) {
			t.Errorf("P13.2: ToDyadic(%#x) = %v, error %d", a, number, err)
		}
		want := a
		if isZero(a) {
			want = 0
		}
		for _, mode := range modes {
			if got, flags, err := FromDyadic(number, mode); got != want || flags != 0 || err != api.OK {
				t.Errorf("P13.2: %#x, there and back, is %#x, flags %d, error %d", a, got, flags, err)
			}
		}
	}
	for _, a := range edges() {
		hold(a)
	}
	s := source(5)
	for range 20000 {
		hold(s.number())
	}
}

// P13.3: what is handed in stays as it is, up to its capacity, and isn't kept.
func TestFromDyadicLeavesAbs(t *testing.T) {
	s := source(6)
	for range 2000 {
		limbs := append(s.limbs(6), 11, 22, 33)
		n, kept, mode := len(limbs)-3, slices.Clone(limbs), s.below(5)
		a := api.Dyadic{Neg: s.below(2) == 0, Abs: limbs[:n], Exp: s.below(400) - 200}
		got, flags, err := FromDyadic(a, mode)
		if !slices.Equal(limbs, kept) {
			t.Fatalf("P13.3: FromDyadic changes %#x", kept)
		}
		// Other limbs in the same memory, and the first ones in another: each is
		// told as if nothing had been ahead.
		clear(limbs)
		holdFromDyadic(t, a, mode, signed(a.Neg, 0), 0, api.OK)
		a.Abs = kept[:n]
		holdFromDyadic(t, a, mode, got, flags, err)
	}
}

// P13.3: an answer is new memory.
func TestToDyadicIsNew(t *testing.T) {
	s := source(7)
	for range 2000 {
		a := s.number()
		first, err := ToDyadic(a)
		second, _ := ToDyadic(a)
		if err != api.OK || len(first.Abs) == 0 {
			continue
		}
		kept := slices.Clone(second.Abs)
		for i := range first.Abs[:cap(first.Abs)] {
			first.Abs[:cap(first.Abs)][i] = 77
		}
		if !slices.Equal(second.Abs, kept) {
			t.Fatalf("P13.3: two answers of ToDyadic(%#x) share memory", a)
		}
		holdToDyadic(t, a, second, api.OK)
	}
}
