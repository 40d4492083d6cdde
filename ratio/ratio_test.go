package ratio

import (
	"math"
	"math/big"
	"slices"
	"testing"

	"vernier/api"
)

const (
	top  = ^uint64(0)
	most = 1 << 14 // the greatest Exp that a dyadic number may have
	full = 1 << 10 // the most limbs that its Abs may have
)

// list is limbs, just as they come.
func list(limbs ...uint64) []uint64 { return limbs }

// plus and minus are fractions of limbs, just as they come.
func plus(num, den []uint64) api.Ratio { return api.Ratio{Num: api.Whole{Abs: num}, Den: den} }
func minus(num, den []uint64) api.Ratio {
	return api.Ratio{Num: api.Whole{Neg: true, Abs: num}, Den: den}
}

// small is n by den, just as it comes, but with a Num of no limbs if n is 0.
func small(n int, den uint64) api.Ratio {
	switch {
	case n < 0:
		return minus(list(uint64(-n)), list(den))
	case n > 0:
		return plus(list(uint64(n)), list(den))
	}
	return plus(nil, list(den))
}

// zeros, ones and power are limbs of that many: all 0, all of bits 1, 2^bit.
func zeros(count int) []uint64 { return make([]uint64, count) }
func ones(count int) []uint64  { return slices.Repeat([]uint64{top}, count) }
func power(bit int) []uint64 {
	return append(zeros(bit/64), 1<<(bit%64))
}

// natural is the number that limbs stand for, reckoned by another program.
func natural(limbs []uint64) *big.Int {
	v := new(big.Int)
	for i := len(limbs) - 1; i >= 0; i-- {
		v.Lsh(v, 64)
		v.Or(v, new(big.Int).SetUint64(limbs[i]))
	}
	return v
}

// limbsOf is how far v is from 0, as limbs without zeros at the end.
func limbsOf(v *big.Int) []uint64 {
	octets := v.Bytes()
	slices.Reverse(octets)
	out := make([]uint64, (len(octets)+7)/8)
	for i, octet := range octets {
		out[i/8] |= uint64(octet) << (i % 8 * 8)
	}
	return out
}

// signed is v, or if neg its opposite.
func signed(neg bool, v *big.Int) *big.Int {
	if neg {
		return new(big.Int).Neg(v)
	}
	return v
}

// value is the fraction that a, which may be, is.
func value(a api.Ratio) *big.Rat {
	return new(big.Rat).SetFrac(signed(a.Num.Neg, natural(a.Num.Abs)), natural(a.Den))
}

// dyadicValue is the fraction that a dyadic number, which may be, is.
func dyadicValue(a api.Dyadic) *big.Rat {
	num, den := signed(a.Neg, natural(a.Abs)), big.NewInt(1)
	if a.Exp < 0 {
		return new(big.Rat).SetFrac(num, den.Lsh(den, uint(-a.Exp)))
	}
	return new(big.Rat).SetFrac(new(big.Int).Lsh(num, uint(a.Exp)), den)
}

// expected is v as the chapter has it told.
func expected(v *big.Rat) api.Ratio {
	return api.Ratio{Num: api.Whole{Neg: v.Sign() < 0, Abs: limbsOf(v.Num())}, Den: limbsOf(v.Denom())}
}

// same tells whether a and b are the same, field by field and limb by limb.
func same(a, b api.Ratio) bool {
	return a.Num.Neg == b.Num.Neg && slices.Equal(a.Num.Abs, b.Num.Abs) && slices.Equal(a.Den, b.Den)
}

// brief is a as it is shown beside a fault: long ones only by their lengths.
func brief(a api.Ratio) any {
	if len(a.Num.Abs)+len(a.Den) <= 12 {
		return a
	}
	return []any{a.Num.Neg, "limbs", len(a.Num.Abs), "by limbs", len(a.Den)}
}

// expect holds an answer and its error against those wanted.
func expect(t *testing.T, what string, got api.Ratio, err api.Errno, want api.Ratio, wantErr api.Errno, args ...api.Ratio) {
	t.Helper()
	if same(got, want) && err == wantErr {
		return
	}
	var shown []any
	for _, a := range args {
		shown = append(shown, brief(a))
	}
	t.Errorf("%s of %v = %v, error %d; want %v, error %d", what, shown, brief(got), err, brief(want), wantErr)
}

// source is a rule of numbers that look mixed, the same in every run.
type source uint64

func (s *source) next() uint64 {
	*s += 0x9e3779b97f4a7c15
	z := uint64(*s)
	z = (z ^ z>>30) * 0xbf58476d1ce4e5b9
	z = (z ^ z>>27) * 0x94d049bb133111eb
	return z ^ z>>31
}

// limbs makes up to count limbs; the edges of a limb come up often, at the end too.
func (s *source) limbs(count int) []uint64 {
	out := make([]uint64, s.next()%uint64(count+1))
	for i := range out {
		switch s.next() % 6 {
		case 0:
			out[i] = 0
		case 1:
			out[i] = top
		case 2:
			out[i] = 1 << (s.next() % 64)
		case 3:
			out[i] = s.next() % 30
		default:
			out[i] = s.next()
		}
	}
	return out
}

// ratio makes a fraction that may be; half of all get a common divisor.
func (s *source) ratio(count int) api.Ratio {
	a := api.Ratio{Num: api.Whole{Neg: s.next()%2 == 0, Abs: s.limbs(count)}, Den: s.limbs(count)}
	if natural(a.Den).Sign() == 0 {
		a.Den = list(s.next()%12+1, 0)
	}
	if common := s.limbs(2); s.next()%2 == 0 && natural(common).Sign() > 0 {
		return times(a, common)
	}
	return a
}

// times is a in other words: Num and Den times common, which is not 0, with
// zeros at the end of both.
func times(a api.Ratio, common []uint64) api.Ratio {
	num := new(big.Int).Mul(natural(a.Num.Abs), natural(common))
	den := new(big.Int).Mul(natural(a.Den), natural(common))
	return api.Ratio{Num: api.Whole{Neg: a.Num.Neg, Abs: append(limbsOf(num), 0)}, Den: append(limbsOf(den), 0, 0)}
}

// edges are fractions that may be in which each edge of the chapter stands at
// least once, with either sign.
func edges() []api.Ratio {
	var out []api.Ratio
	for _, den := range [][]uint64{{1}, {1, 0}, {2}, {3, 0, 0}, {6}, {1 << 63}, {top}, {0, 1}, {0, 6, 0}, {top, top}} {
		for _, num := range [][]uint64{nil, {}, {0}, {0, 0, 0}, {1}, {1, 0}, {2}, {3}, {6, 0, 0}, {1 << 63}, {top}, {0, 1}, {0, 9, 0}, {top, top}} {
			out = append(out, plus(slices.Clone(num), slices.Clone(den)), minus(slices.Clone(num), slices.Clone(den)))
		}
	}
	return out
}

// samples are every so manieth of the edges, and a good many mixed fractions.
func samples(count, size, step int) []api.Ratio {
	var out []api.Ratio
	for i, a := range edges() {
		if i%step == 0 {
			out = append(out, a)
		}
	}
	s := source(count)
	for range count {
		out = append(out, s.ratio(size))
	}
	return out
}

// long are fractions of many limbs, more than a dyadic number may have too.
func long() []api.Ratio {
	s := source(11)
	mixed := make([]uint64, 120)
	for i := range mixed {
		mixed[i] = s.next() | 1
	}
	return []api.Ratio{
		plus(ones(150), mixed), minus(mixed, ones(100)), plus(mixed, mixed[:90]), minus(zeros(2*full), ones(60)),
		plus(append(zeros(full+7), 6), append(zeros(full+9), 9)), minus(list(1), power(64*full+5)), plus(list(7, 0), list(3)),
		times(minus(mixed[:50], ones(40)), mixed[60:110]),
	}
}

// zeroDens are all forms of a Den that is 0.
func zeroDens() [][]uint64 {
	return [][]uint64{nil, {}, {0}, {0, 0, 0}, zeros(3 * full)}
}

// wrong are fractions that may not be.
func wrong() []api.Ratio {
	var out []api.Ratio
	for _, den := range zeroDens() {
		for _, num := range [][]uint64{nil, {}, {0, 0}, {1}, {6, 0}, {0, top}} {
			out = append(out, plus(num, den), minus(num, den))
		}
	}
	return out
}

// two are the calls that answer a fraction of two others, and the same as
// another program reckons them.
func two() map[string]func(a, b api.Ratio) (api.Ratio, api.Errno) {
	return map[string]func(a, b api.Ratio) (api.Ratio, api.Errno){"Add": Add, "Sub": Sub, "Mul": Mul, "Div": Div}
}

func reckon(name string, v, w *big.Rat) (api.Ratio, api.Errno) {
	switch name {
	case "Add":
		return expected(new(big.Rat).Add(v, w)), api.OK
	case "Sub":
		return expected(new(big.Rat).Sub(v, w)), api.OK
	case "Mul":
		return expected(new(big.Rat).Mul(v, w)), api.OK
	}
	if w.Sign() == 0 {
		return api.Ratio{}, api.ErrZero
	}
	return expected(new(big.Rat).Quo(v, w)), api.OK
}

// P5.1: which fractions may be.

func TestCheck(t *testing.T) {
	for _, a := range append(edges(), long()...) {
		if err := Check(a); err != api.OK {
			t.Errorf("P5.1: Check(%v) = %d, it may be", brief(a), err)
		}
	}
	for _, a := range wrong() {
		if err := Check(a); err != api.ErrState {
			t.Errorf("P5.1: Check(%v) = %d, it may not be", brief(a), err)
		}
	}
}

// P5.1, P4: a call answers ErrState of what may not be, and nothing beside it.

func TestWrongOne(t *testing.T) {
	for _, a := range wrong() {
		got, err := Norm(a)
		expect(t, "P5.1: Norm", got, err, api.Ratio{}, api.ErrState, a)
	}
}

func TestWrongTwo(t *testing.T) {
	// By some of these nothing is divided: ErrState goes ahead of ErrZero.
	right := []api.Ratio{small(0, 1), minus(list(0, 0), list(7)), small(3, 6), small(-5, 1), plus(ones(9), ones(4))}
	for _, a := range wrong() {
		for _, b := range append(right, wrong()...) {
			for _, pair := range [][2]api.Ratio{{a, b}, {b, a}} {
				for name, call := range two() {
					got, err := call(pair[0], pair[1])
					expect(t, "P5.1: "+name, got, err, api.Ratio{}, api.ErrState, pair[0], pair[1])
				}
				if got, err := Cmp(pair[0], pair[1]); got != 0 || err != api.ErrState {
					t.Errorf("P5.1: Cmp(%v, %v) = %d, error %d", brief(pair[0]), brief(pair[1]), got, err)
				}
			}
		}
	}
}

// P5.1: Div by 0, in any form, is ErrZero, of 0 too, and nothing beside it.
func TestDivByZero(t *testing.T) {
	var none []api.Ratio
	for _, num := range [][]uint64{nil, {}, {0}, {0, 0, 0}} {
		for _, den := range [][]uint64{{1}, {6, 0}, {0, top}} {
			none = append(none, plus(num, den), minus(num, den))
		}
	}
	for _, a := range append(edges(), long()...) {
		for _, b := range none {
			got, err := Div(a, b)
			expect(t, "P5.1: Div", got, err, api.Ratio{}, api.ErrZero, a, b)
		}
	}
}

// P5.1: what the chapter says of each call, on numbers written out here.

func TestNormWrittenOut(t *testing.T) {
	for _, c := range []struct{ a, want api.Ratio }{
		{small(3, 6), small(1, 2)}, // the chapter's example
		{small(1, 2), small(1, 2)}, {small(-3, 6), small(-1, 2)}, {small(6, 3), small(2, 1)}, {small(-6, 6), small(-1, 1)},
		{small(35, 12), small(35, 12)}, {small(-12, 35), small(-12, 35)}, {small(84, 36), small(7, 3)}, {small(7, 1), small(7, 1)},
		// Zeros at the end of either.
		{plus(list(3, 0), list(6, 0, 0)), small(1, 2)}, {minus(list(5, 0, 0), list(7)), small(-5, 7)}, {plus(list(5), list(1, 0)), small(5, 1)},
		// 0 with either sign and any Den.
		{small(0, 1), small(0, 1)}, {small(0, 9), small(0, 1)}, {minus(nil, list(1)), small(0, 1)}, {minus(list(), list(top, 4)), small(0, 1)},
		{plus(list(0), list(12, 0)), small(0, 1)}, {minus(list(0, 0, 0), list(0, 0, 1)), small(0, 1)}, {minus(zeros(5), ones(3)), small(0, 1)},
		// More limbs than one.
		{plus(list(0, 1), list(2)), plus(list(1<<63), list(1))}, {minus(list(2), list(0, 1)), minus(list(1), list(1<<63))}, {plus(list(0, 6), list(0, 9)), small(2, 3)},
		{minus(list(0, 1), list(1)), minus(list(0, 1), list(1))}, {plus(list(1), list(0, 1)), plus(list(1), list(0, 1))}, {plus(list(top), list(top, top)), plus(list(1), list(1, 1))},
		{plus(list(top, top), list(top)), plus(list(1, 1), list(1))}, {minus(list(top, top), list(0, 1)), minus(list(top, top), list(0, 1))}, {minus(ones(40), ones(40)), small(-1, 1)},
	} {
		got, err := Norm(c.a)
		expect(t, "P5.1: Norm", got, err, c.want, api.OK, c.a)
	}
}

func TestOfWrittenOut(t *testing.T) {
	for _, c := range []struct {
		a    api.Dyadic
		want api.Ratio
	}{
		{api.Dyadic{Abs: list(3)}, small(3, 1)}, {api.Dyadic{Neg: true, Abs: list(3, 0)}, small(-3, 1)},
		{api.Dyadic{Abs: list(3), Exp: 2}, small(12, 1)}, {api.Dyadic{Abs: list(3), Exp: -2}, small(3, 4)}, {api.Dyadic{Neg: true, Abs: list(5), Exp: -1}, small(-5, 2)},
		// Abs even: the twos that it has are taken from Den.
		{api.Dyadic{Abs: list(12), Exp: -2}, small(3, 1)}, {api.Dyadic{Neg: true, Abs: list(12), Exp: -3}, small(-3, 2)}, {api.Dyadic{Abs: list(12), Exp: -1}, small(6, 1)},
		{api.Dyadic{Abs: list(0, 1), Exp: -64}, small(1, 1)}, {api.Dyadic{Abs: list(0, 1), Exp: -65}, small(1, 2)}, {api.Dyadic{Abs: list(0, 1), Exp: -63}, small(2, 1)},
		{api.Dyadic{Abs: list(1), Exp: 64}, plus(list(0, 1), list(1))}, {api.Dyadic{Neg: true, Abs: list(7), Exp: -64}, minus(list(7), list(0, 1))},
		// 0 with either sign and any Exp.
		{api.Dyadic{}, small(0, 1)}, {api.Dyadic{Neg: true}, small(0, 1)}, {api.Dyadic{Neg: true, Abs: list(0, 0), Exp: 9}, small(0, 1)}, {api.Dyadic{Abs: list(), Exp: -9}, small(0, 1)},
		{api.Dyadic{Exp: most}, small(0, 1)}, {api.Dyadic{Neg: true, Abs: list(0), Exp: -most}, small(0, 1)}, {api.Dyadic{Abs: zeros(full), Exp: -most}, small(0, 1)},
		// The greatest Exp and the least one. The first ones can't be told as dyadic numbers, but they may be.
		{api.Dyadic{Abs: list(2), Exp: most}, plus(power(most+1), list(1))}, {api.Dyadic{Neg: true, Abs: power(64*full - 1), Exp: most}, minus(power(64*full-1+most), list(1))},
		{api.Dyadic{Abs: list(1), Exp: most}, plus(power(most), list(1))}, {api.Dyadic{Neg: true, Abs: list(1), Exp: -most}, minus(list(1), power(most))},
		{api.Dyadic{Abs: list(6, 0), Exp: -most}, plus(list(3), power(most-1))}, {api.Dyadic{Abs: ones(full), Exp: -most}, plus(ones(full), power(most))},
		{api.Dyadic{Abs: power(most), Exp: -most}, small(1, 1)}, {api.Dyadic{Neg: true, Abs: power(most + 1), Exp: -most}, small(-2, 1)}, {api.Dyadic{Abs: power(most - 1), Exp: -most}, small(1, 2)},
		{api.Dyadic{Abs: ones(full), Exp: most}, plus(append(zeros(most/64), ones(full)...), list(1))},
	} {
		got, err := Of(c.a)
		if !same(got, c.want) || err != api.OK {
			t.Errorf("P5.1: Of(%v limbs, Exp %d) = %v, error %d; want %v", len(c.a.Abs), c.a.Exp, brief(got), err, brief(c.want))
		}
	}
}

// P5.1: of a dyadic number that may not be Of answers dyadic.Check's error.
func TestOfWrong(t *testing.T) {
	bad := []api.Dyadic{{Abs: zeros(full + 1)}, {Neg: true, Abs: ones(full + 1)}, {Abs: append(list(3), zeros(full)...), Exp: -most}, {Abs: zeros(3 * full), Exp: most + 1}}
	for _, exp := range []int{most + 1, -most - 1, 4 * most, -4 * most, 5 * most, math.MaxInt, math.MinInt} {
		bad = append(bad, api.Dyadic{Exp: exp}, api.Dyadic{Neg: true, Abs: list(0, 0), Exp: exp}, api.Dyadic{Abs: list(6), Exp: exp}, api.Dyadic{Neg: true, Abs: list(1, 1), Exp: exp})
	}
	for _, a := range bad {
		if got, err := Of(a); !same(got, api.Ratio{}) || err != api.ErrState {
			t.Errorf("P5.1: Of(%v limbs, Exp %d) = %v, error %d", len(a.Abs), a.Exp, brief(got), err)
		}
	}
}

func TestCmpWrittenOut(t *testing.T) {
	for _, c := range []struct {
		a, b api.Ratio
		want int
	}{
		{small(1, 2), small(1, 3), 1}, {small(1, 3), small(1, 2), -1}, {small(-1, 2), small(-1, 3), -1}, {small(-1, 3), small(-1, 2), 1},
		{small(-1, 2), small(1, 9), -1}, {small(1, 9), small(-1, 2), 1}, {small(2, 3), small(3, 4), -1}, {small(-5, 7), small(-7, 10), -1},
		// The same, told otherwise.
		{small(3, 6), small(1, 2), 0}, {small(-3, 6), minus(list(7, 0), list(14, 0, 0)), 0}, {small(5, 1), small(10, 2), 0}, {plus(list(0, 6), list(0, 9)), small(2, 3), 0},
		// 0 with either sign and any Den.
		{small(0, 1), minus(list(0), list(5)), 0}, {minus(nil, list(2)), minus(list(0, 0), list(3, 0)), 0}, {minus(nil, list(2)), small(1, 9), -1}, {minus(list(0), list(2)), small(-1, 9), 1},
		{small(1, top), small(0, 1), 1}, {small(-1, top), minus(nil, list(1)), -1},
		// Near each other.
		{small(1, top), small(1, top-1), -1}, {plus(list(top), list(0, 1)), small(1, 1), -1}, {plus(list(1, 1), list(0, 1)), small(1, 1), 1}, {minus(list(1, 1), list(0, 1)), small(-1, 1), -1},
		{plus(power(5000), power(4999)), small(2, 1), 0}, {minus(list(1), power(5000)), minus(list(1), power(5001)), -1},
	} {
		if got, err := Cmp(c.a, c.b); got != c.want || err != api.OK {
			t.Errorf("P5.1: Cmp(%v, %v) = %d, error %d; want %d", brief(c.a), brief(c.b), got, err, c.want)
		}
	}
}

func TestTwoWrittenOut(t *testing.T) {
	for _, c := range []struct {
		a, b, sum, diff, product, quotient api.Ratio
	}{
		{small(1, 2), small(1, 3), small(5, 6), small(1, 6), small(1, 6), small(3, 2)},
		{small(1, 6), small(1, 3), small(1, 2), small(-1, 6), small(1, 18), small(1, 2)},
		{small(-1, 2), small(1, 3), small(-1, 6), small(-5, 6), small(-1, 6), small(-3, 2)},
		{small(1, 2), small(-1, 3), small(1, 6), small(5, 6), small(-1, 6), small(-3, 2)},
		{small(-1, 2), small(-1, 3), small(-5, 6), small(-1, 6), small(1, 6), small(3, 2)},
		{small(2, 3), small(3, 2), small(13, 6), small(-5, 6), small(1, 1), small(4, 9)},
		{small(6, 4), small(-9, 6), small(0, 1), small(3, 1), small(-9, 4), small(-1, 1)},
		{small(3, 1), small(5, 1), small(8, 1), small(-2, 1), small(15, 1), small(3, 5)},
		{small(-4, 2), small(1, 1), small(-1, 1), small(-3, 1), small(-2, 1), small(-2, 1)},
		{small(0, 7), small(2, 4), small(1, 2), small(-1, 2), small(0, 1), small(0, 1)},
		{minus(list(0, 0), list(7)), small(-2, 4), small(-1, 2), small(1, 2), small(0, 1), small(0, 1)},
		{minus(nil, list(3, 0)), plus(list(5, 0), list(10, 0)), small(1, 2), small(-1, 2), small(0, 1), small(0, 1)},
		{plus(list(top), list(1)), small(1, 1), plus(list(0, 1), list(1)), plus(list(top-1), list(1)), plus(list(top), list(1)), plus(list(top), list(1))},
		{plus(list(1), list(0, 1)), plus(list(1), list(0, 1)), plus(list(1), list(1<<63)), small(0, 1), plus(list(1), list(0, 0, 1)), small(1, 1)},
		{minus(list(0, 1), list(3)), plus(list(0, 2), list(9)), minus(list(0, 1), list(9)), minus(list(0, 5), list(9)), minus(list(0, 0, 2), list(27)), small(-3, 2)},
	} {
		for name, want := range map[string]api.Ratio{"Add": c.sum, "Sub": c.diff, "Mul": c.product, "Div": c.quotient} {
			got, err := two()[name](c.a, c.b)
			expect(t, "P5.1: "+name, got, err, want, api.OK, c.a, c.b)
		}
	}
}

// P5.1: every call against numbers that another program reckons.

func TestNormAgainstNumbers(t *testing.T) {
	for _, a := range append(samples(1500, 7, 1), long()...) {
		got, err := Norm(a)
		expect(t, "P5.1: Norm", got, err, expected(value(a)), api.OK, a)
	}
}

func TestOfAgainstNumbers(t *testing.T) {
	s := source(5)
	for _, exp := range []int{0, 1, -1, 63, 64, -64, -65, 700, -700, most, most - 1, -most, -most + 1} {
		for range 60 {
			a := api.Dyadic{Neg: s.next()%2 == 0, Abs: s.limbs(8), Exp: exp}
			if got, err := Of(a); !same(got, expected(dyadicValue(a))) || err != api.OK {
				t.Errorf("P5.1: Of(%v) = %v, error %d", a, brief(got), err)
			}
		}
	}
}

func twoAgainstNumbers(t *testing.T, all []api.Ratio) {
	for _, a := range all {
		v := value(a)
		for _, b := range all {
			w := value(b)
			if got, err := Cmp(a, b); got != v.Cmp(w) || err != api.OK {
				t.Errorf("P5.1: Cmp(%v, %v) = %d, error %d; want %d", brief(a), brief(b), got, err, v.Cmp(w))
			}
			for name, call := range two() {
				want, wantErr := reckon(name, v, w)
				got, err := call(a, b)
				expect(t, "P5.1: "+name, got, err, want, wantErr, a, b)
			}
		}
		if t.Failed() {
			t.FailNow()
		}
	}
}

func TestTwoAgainstNumbers(t *testing.T) {
	twoAgainstNumbers(t, samples(50, 5, 7))
}

// Fractions have no greatest length, so neither do sums and products.
func TestLongAgainstNumbers(t *testing.T) {
	twoAgainstNumbers(t, long())
}

// All fractions of small numbers: there each way to have a common divisor is.
func TestSmallAgainstNumbers(t *testing.T) {
	var all []api.Ratio
	for n := -6; n <= 6; n++ {
		for den := uint64(1); den <= 6; den++ {
			all = append(all, small(n, den))
		}
	}
	twoAgainstNumbers(t, all)
}

// otherForms are a in other words: zeros at the end, a common divisor more,
// and if it is 0 with the other sign and other Dens.
func otherForms(a api.Ratio) []api.Ratio {
	out := []api.Ratio{times(a, list(1)), times(a, list(6)), times(a, list(0, 35))}
	if natural(a.Num.Abs).Sign() == 0 {
		out = append(out, api.Ratio{Num: api.Whole{Neg: !a.Num.Neg}, Den: a.Den}, minus(list(0), list(0, 8)), plus(list(), list(1)))
	}
	return out
}

// P5.1: a fraction is the same one in whatever form it comes.
func TestFormsAreOfNoMatter(t *testing.T) {
	all := samples(10, 4, 19)
	for _, a := range all {
		for _, form := range otherForms(a) {
			want, _ := Norm(a)
			got, err := Norm(form)
			expect(t, "P5.1: Norm", got, err, want, api.OK, form)
			if order, err := Cmp(form, a); order != 0 || err != api.OK {
				t.Errorf("P5.1: Cmp(%v, %v) = %d, error %d", form, a, order, err)
			}
			for _, b := range all {
				for name, call := range two() {
					want, wantErr := call(a, b)
					got, err := call(form, b)
					expect(t, "P5.1: "+name, got, err, want, wantErr, form, b)
					want, wantErr = call(b, a)
					got, err = call(b, form)
					expect(t, "P5.1: "+name, got, err, want, wantErr, b, form)
				}
				order, _ := Cmp(a, b)
				if got, err := Cmp(form, b); got != order || err != api.OK {
					t.Errorf("P5.1: Cmp(%v, %v) = %d, error %d; want %d", form, b, got, err, order)
				}
				if got, err := Cmp(b, form); got != -order || err != api.OK {
					t.Errorf("P5.1: Cmp(%v, %v) = %d, error %d; want %d", b, form, got, err, -order)
				}
			}
		}
	}
}

// P5.2: what is divided, multiplied again, is there.

// sure is the answer of a call that has one.
func sure(t *testing.T) func(a api.Ratio, err api.Errno) api.Ratio {
	return func(a api.Ratio, err api.Errno) api.Ratio {
		t.Helper()
		if err != api.OK {
			t.Fatalf("P5.2: error %d", err)
		}
		return a
	}
}

func TestMultipliedAgain(t *testing.T) {
	is := sure(t)
	for _, all := range [][]api.Ratio{samples(60, 5, 5), long()} {
		for _, a := range all {
			for _, b := range all {
				if value(b).Sign() == 0 {
					continue
				}
				quotient := is(Div(a, b))
				if !same(is(Mul(quotient, b)), is(Norm(a))) || !same(is(Mul(b, quotient)), is(Norm(a))) {
					t.Fatalf("P5.2: %v by %v, multiplied again", brief(a), brief(b))
				}
				if !same(is(Div(is(Mul(a, b)), b)), is(Norm(a))) {
					t.Fatalf("P5.2: %v times %v, divided again", brief(a), brief(b))
				}
			}
		}
	}
}

func TestTurnedTwice(t *testing.T) {
	is := sure(t)
	one := small(1, 1)
	for _, a := range append(samples(300, 6, 1), long()...) {
		if value(a).Sign() == 0 {
			continue
		}
		turned := is(Div(one, a))
		if !same(is(Div(one, turned)), is(Norm(a))) || !same(is(Mul(turned, a)), one) || !same(is(Div(a, a)), one) || !same(is(Div(a, one)), is(Norm(a))) {
			t.Fatalf("P5.2: 1 by %v = %v", brief(a), brief(turned))
		}
	}
}

// P5.2, of the other calls: what they answer fits together.

func TestPutBack(t *testing.T) {
	is := sure(t)
	all := samples(40, 5, 7)
	for _, a := range all {
		for _, b := range all {
			diff := is(Sub(a, b))
			if !same(is(Add(diff, b)), is(Norm(a))) || !same(is(Sub(is(Add(a, b)), b)), is(Norm(a))) || !same(is(Sub(a, diff)), is(Norm(b))) {
				t.Fatalf("P5.2: %v less %v = %v", a, b, diff)
			}
			if !same(is(Add(a, b)), is(Add(b, a))) || !same(is(Mul(a, b)), is(Mul(b, a))) {
				t.Fatalf("P5.2: %v and %v in the other order", a, b)
			}
			order, err := Cmp(a, b)
			sign, signErr := Cmp(diff, small(0, 1))
			if order != sign || err != api.OK || signErr != api.OK {
				t.Fatalf("P5.2: %v less %v = %v, Cmp is %d", a, b, diff, order)
			}
		}
	}
}

func TestPutTogetherAnyWay(t *testing.T) {
	is := sure(t)
	all := samples(10, 3, 29)
	for _, a := range all {
		for _, b := range all {
			for _, c := range all {
				if !same(is(Add(is(Add(a, b)), c)), is(Add(a, is(Add(b, c))))) || !same(is(Mul(is(Mul(a, b)), c)), is(Mul(a, is(Mul(b, c))))) {
					t.Fatalf("P5.2: sums or products of %v, %v, %v", a, b, c)
				}
				if !same(is(Mul(a, is(Sub(b, c)))), is(Sub(is(Mul(a, b)), is(Mul(a, c))))) {
					t.Fatalf("P5.2: %v times what %v is more than %v", a, b, c)
				}
			}
		}
	}
}

// P5.3: what is handed in stays as it is, and an answer is new memory.

// roomy is a copy of a with limbs behind the ends, in the same memory.
func roomy(a api.Ratio) api.Ratio {
	return api.Ratio{Num: api.Whole{Neg: a.Num.Neg, Abs: roomyLimbs(a.Num.Abs)}, Den: roomyLimbs(a.Den)}
}

func roomyLimbs(limbs []uint64) []uint64 {
	return append(slices.Clone(limbs), 11, 22, 33)[:len(limbs)]
}

// allOf is roomy a with what stands behind the ends.
func allOf(a api.Ratio) api.Ratio {
	return api.Ratio{Num: api.Whole{Neg: a.Num.Neg, Abs: a.Num.Abs[:len(a.Num.Abs)+3]}, Den: a.Den[:len(a.Den)+3]}
}

// copied is a copy of a.
func copied(a api.Ratio) api.Ratio {
	return api.Ratio{Num: api.Whole{Neg: a.Num.Neg, Abs: slices.Clone(a.Num.Abs)}, Den: slices.Clone(a.Den)}
}

// spoil writes over all the memory of limbs, up to their capacity.
func spoil(limbs []uint64) {
	limbs = limbs[:cap(limbs)]
	for i := range limbs {
		limbs[i] = ^limbs[i]
	}
}

// calls are the calls that answer a fraction, each with two arguments.
func calls() map[string]func(a, b api.Ratio) (api.Ratio, api.Errno) {
	out := two()
	out["Norm"] = func(a, b api.Ratio) (api.Ratio, api.Errno) { return Norm(a) }
	return out
}

func TestArgumentsStay(t *testing.T) {
	numbers := append(samples(15, 5, 19), wrong()[:6]...)
	for _, first := range numbers {
		for _, second := range numbers {
			a, b := roomy(first), roomy(second)
			wholeA, wholeB := copied(allOf(a)), copied(allOf(b))
			for name, call := range calls() {
				call(a, b)
				Check(a)
				Cmp(a, b)
				if !same(allOf(a), wholeA) || !same(allOf(b), wholeB) {
					t.Fatalf("P5.3: %s, Check or Cmp changes %v, %v", name, first, second)
				}
			}
		}
	}
}

func TestAnswersAreNew(t *testing.T) {
	numbers := append(samples(15, 5, 19), small(1, 1), small(-1, 1), small(5, 7), small(0, 1))
	for name, call := range calls() {
		for _, first := range numbers {
			for _, second := range numbers {
				a, b := roomy(first), roomy(second)
				got, _ := call(a, b)
				other, _ := call(a, b)
				want := copied(got)
				spoil(got.Num.Abs)
				if !slices.Equal(got.Den, want.Den) {
					t.Fatalf("P5.3: Num and Den of what %s answers share memory: %v, %v", name, first, second)
				}
				spoil(got.Den)
				if !same(a, first) || !same(b, second) || !same(other, want) {
					t.Fatalf("P5.3: what %s answers shares memory: %v, %v", name, first, second)
				}
				spoil(a.Num.Abs)
				spoil(a.Den)
				spoil(b.Num.Abs)
				spoil(b.Den)
				if !same(other, want) {
					t.Fatalf("P5.3: what %s answers is an argument's memory: %v, %v", name, first, second)
				}
			}
		}
	}
}

func TestOfAnswersNew(t *testing.T) {
	s := source(9)
	for _, exp := range []int{0, 0, 1, 64, -1, -64, -200, most, -most} {
		for range 20 {
			limbs := s.limbs(5)
			abs := roomyLimbs(limbs)
			a := api.Dyadic{Neg: s.next()%2 == 0, Abs: abs, Exp: exp}
			got, _ := Of(a)
			other, _ := Of(a)
			want := copied(got)
			spoil(got.Num.Abs)
			if !slices.Equal(got.Den, want.Den) {
				t.Fatalf("P5.3: Num and Den of Of(%v) share memory", limbs)
			}
			spoil(got.Den)
			if !slices.Equal(abs[:len(abs)+3], append(slices.Clone(limbs), 11, 22, 33)) || !same(other, want) {
				t.Fatalf("P5.3: what Of(%v, Exp %d) answers shares memory, or the number is changed", limbs, exp)
			}
			spoil(abs)
			if !same(other, want) {
				t.Fatalf("P5.3: what Of(%v, Exp %d) answers is the number's memory", limbs, exp)
			}
		}
	}
}

func TestArgumentsThatShare(t *testing.T) {
	s := source(21)
	for range 80 {
		limbs := append(s.limbs(7), s.next()|1)
		kept := slices.Clone(limbs)
		low := api.Ratio{Num: api.Whole{Neg: true, Abs: limbs[len(limbs)/3:]}, Den: limbs}
		high := api.Ratio{Num: api.Whole{Abs: limbs}, Den: limbs[len(limbs)/2:]}
		for name, call := range calls() {
			want, wantErr := call(copied(low), copied(high))
			got, err := call(low, high)
			expect(t, "P5.3: "+name+" of two that share limbs", got, err, want, wantErr, low, high)
			want, wantErr = call(copied(high), copied(high))
			got, err = call(high, high)
			expect(t, "P5.3: "+name+" with itself", got, err, want, wantErr, high)
		}
		if !slices.Equal(limbs, kept) {
			t.Fatalf("P5.3: %v was changed", kept)
		}
	}
}
