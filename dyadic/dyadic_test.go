package dyadic

import (
	"math"
	"math/big"
	"slices"
	"testing"

	"vernier/api"
)

const (
	top  = ^uint64(0)
	most = 1 << 14 // the greatest Exp that may be, as the chapter writes it
	full = 1 << 10 // the most limbs that an Abs may have
	room = 2 * most
)

// plus and minus are dyadic numbers with the limbs given, just as they come.
func plus(exp int, limbs ...uint64) api.Dyadic  { return api.Dyadic{Abs: limbs, Exp: exp} }
func minus(exp int, limbs ...uint64) api.Dyadic { return api.Dyadic{Neg: true, Abs: limbs, Exp: exp} }

// zeros, ones and power are limbs of that many: all 0, all of bits 1, 2^bit.
func zeros(count int) []uint64 { return make([]uint64, count) }
func ones(count int) []uint64  { return slices.Repeat([]uint64{top}, count) }
func power(bit int) []uint64 {
	return append(zeros(bit/64), 1<<(bit%64))
}

// natural is the number that limbs stand for, reckoned by another program.
func natural(limbs []uint64) *big.Int {
	v := new(big.Int)
	for i := len(limbs) - 1; i >= 0; i-- {
		v.Lsh(v, 64)
		v.Or(v, new(big.Int).SetUint64(limbs[i]))
	}
	return v
}

// value is a, which may be, times 2^room: a whole number.
func value(a api.Dyadic) *big.Int {
	v := natural(a.Abs)
	if a.Neg {
		v.Neg(v)
	}
	return v.Lsh(v, uint(a.Exp+room))
}

// expected is v times 2^exp as the chapter has it told, or its error.
func expected(v *big.Int, exp int) (api.Dyadic, api.Errno) {
	if v.Sign() == 0 {
		return api.Dyadic{}, api.OK
	}
	abs := new(big.Int).Abs(v)
	twos := int(abs.TrailingZeroBits())
	abs.Rsh(abs, uint(twos))
	exp += twos
	if exp < -most || exp > most || abs.BitLen() > 64*full {
		return api.Dyadic{}, api.ErrRange
	}
	var limbs []uint64
	for abs.Sign() != 0 {
		limbs = append(limbs, new(big.Int).And(abs, natural([]uint64{top})).Uint64())
		abs.Rsh(abs, 64)
	}
	return api.Dyadic{Neg: v.Sign() < 0, Abs: limbs, Exp: exp}, api.OK
}

// same tells whether a and b are the same, field by field and limb by limb.
func same(a, b api.Dyadic) bool {
	return a.Neg == b.Neg && a.Exp == b.Exp && slices.Equal(a.Abs, b.Abs)
}

// brief is a as it is shown beside a fault: long ones only by their lengths.
func brief(a api.Dyadic) any {
	if len(a.Abs) <= 6 {
		return a
	}
	return []any{a.Neg, "limbs", len(a.Abs), a.Abs[0], a.Abs[len(a.Abs)-1], "Exp", a.Exp}
}

// expect holds an answer and its error against those wanted.
func expect(t *testing.T, what string, got api.Dyadic, err api.Errno, want api.Dyadic, wantErr api.Errno, args ...api.Dyadic) {
	t.Helper()
	if same(got, want) && err == wantErr {
		return
	}
	var shown []any
	for _, a := range args {
		shown = append(shown, brief(a))
	}
	t.Errorf("%s of %v = %v, error %d; want %v, error %d", what, shown, brief(got), err, brief(want), wantErr)
}

// source is a rule of numbers that look mixed, the same in every run.
type source uint64

func (s *source) next() uint64 {
	*s += 0x9e3779b97f4a7c15
	z := uint64(*s)
	z = (z ^ z>>30) * 0xbf58476d1ce4e5b9
	z = (z ^ z>>27) * 0x94d049bb133111eb
	return z ^ z>>31
}

// limbs makes up to count limbs; the edges of a limb come up often, at the end too.
func (s *source) limbs(count int) []uint64 {
	out := make([]uint64, s.next()%uint64(count+1))
	for i := range out {
		switch s.next() % 6 {
		case 0:
			out[i] = 0
		case 1:
			out[i] = top
		case 2:
			out[i] = 1 << (s.next() % 64)
		case 3:
			out[i] = top << (s.next() % 64)
		default:
			out[i] = s.next()
		}
	}
	return out
}

// exp makes an Exp that may be, mostly near 0, at times near an edge.
func (s *source) exp() int {
	switch s.next() % 8 {
	case 0:
		return most - int(s.next()%100)
	case 1:
		return -most + int(s.next()%100)
	case 2:
		return int(s.next()%(2*most+1)) - most
	}
	return int(s.next()%200) - 100
}

func (s *source) dyadic(count int) api.Dyadic {
	return api.Dyadic{Neg: s.next()%2 == 0, Abs: s.limbs(count), Exp: s.exp()}
}

// edges are numbers that may be in which each edge of the chapter stands at
// least once, with either sign.
func edges() []api.Dyadic {
	var out []api.Dyadic
	for _, exp := range []int{0, 1, -1, 64, most, most - 1, -most, -most + 1} {
		for _, limbs := range [][]uint64{
			nil, {}, {0}, {0, 0, 0}, {1}, {1, 0}, {2}, {3}, {12, 0}, {1 << 63}, {top}, {top - 1, 0, 0},
			{0, 1}, {0, 6, 0}, {1, 1}, {top, top},
		} {
			out = append(out, plus(exp, slices.Clone(limbs)...), minus(exp, slices.Clone(limbs)...))
		}
	}
	return out
}

// long are numbers that may be with Abs of as many limbs as may be, or nearly.
func long() []api.Dyadic {
	var out []api.Dyadic
	for _, exp := range []int{0, most, -most} {
		for _, limbs := range [][]uint64{
			zeros(full), ones(full), ones(full - 1), append(ones(full-1), 0), append([]uint64{7}, zeros(full-1)...),
			power(64*full - 1), append(zeros(full-1), top), append([]uint64{1}, power(64*full-65)...), ones(full / 2), ones(full/2 + 1),
		} {
			out = append(out, plus(exp, slices.Clone(limbs)...), minus(exp, slices.Clone(limbs)...))
		}
	}
	return out
}

// fewLong is every third of them: pairs of all would take long.
func fewLong() []api.Dyadic {
	var out []api.Dyadic
	for i, a := range long() {
		if i%3 == 0 {
			out = append(out, a)
		}
	}
	return out
}

// samples are the edges and a good many mixed numbers.
func samples(count, size int) []api.Dyadic {
	s := source(count)
	out := edges()
	for range count {
		out = append(out, s.dyadic(size))
	}
	return out
}

// some are mixed numbers, and every so manieth of the edges.
func some(count, size, step int) []api.Dyadic {
	var out []api.Dyadic
	for i, a := range samples(count, size) {
		if i%step == 0 || i >= len(edges()) {
			out = append(out, a)
		}
	}
	return out
}

// wrong are numbers that may not be.
func wrong() []api.Dyadic {
	out := []api.Dyadic{
		plus(0, zeros(full+1)...), minus(0, ones(full+1)...), plus(most, append([]uint64{5}, zeros(full)...)...),
		minus(-most, power(64*full)...), plus(0, zeros(3*full)...), plus(most+1, ones(full+1)...),
	}
	for _, exp := range []int{most + 1, -most - 1, 2 * most, math.MaxInt, math.MinInt, math.MinInt + 1} {
		out = append(out, plus(exp, 1), minus(exp, 6, 1), plus(exp), minus(exp, 0, 0))
	}
	return out
}

// one and two are the calls that answer a number of one and of two others.
func one() map[string]func(a api.Dyadic) (api.Dyadic, api.Errno) {
	return map[string]func(a api.Dyadic) (api.Dyadic, api.Errno){
		"Norm":           Norm,
		"Abs":            Abs,
		"Above, 1 bit":   func(a api.Dyadic) (api.Dyadic, api.Errno) { return Above(a, 1) },
		"Above, 70 bits": func(a api.Dyadic) (api.Dyadic, api.Errno) { return Above(a, 70) },
		"Above, all":     func(a api.Dyadic) (api.Dyadic, api.Errno) { return Above(a, math.MaxInt) },
	}
}

func two() map[string]func(a, b api.Dyadic) (api.Dyadic, api.Errno) {
	return map[string]func(a, b api.Dyadic) (api.Dyadic, api.Errno){"Add": Add, "Sub": Sub, "Mul": Mul}
}

// P4.1: which numbers may be.

func TestCheck(t *testing.T) {
	for _, a := range slices.Concat(edges(), long()) {
		if err := Check(a); err != api.OK {
			t.Errorf("P4.1: Check(%v) = %d, it may be", brief(a), err)
		}
	}
	for _, a := range wrong() {
		if err := Check(a); err != api.ErrState {
			t.Errorf("P4.1: Check(%v) = %d, it may not be", brief(a), err)
		}
	}
}

// P4.1, P4: a call answers ErrState of what may not be, and nothing beside it.

func TestWrongOne(t *testing.T) {
	for _, a := range wrong() {
		for name, call := range one() {
			got, err := call(a)
			expect(t, "P4.1: "+name, got, err, api.Dyadic{}, api.ErrState, a)
		}
		for _, bits := range []int{0, -1, math.MinInt, math.MaxInt} {
			got, err := Above(a, bits)
			expect(t, "P4.1: Above", got, err, api.Dyadic{}, api.ErrState, a)
		}
	}
}

func TestWrongTwo(t *testing.T) {
	// Two of these have no answer either: ErrState goes ahead of ErrRange.
	right := []api.Dyadic{plus(0), minus(0, 3), plus(most, 2), minus(-most, 1), plus(most, ones(full)...)}
	for _, a := range wrong() {
		for _, b := range append(right, a, plus(most+1, 1)) {
			for name, call := range two() {
				got, err := call(a, b)
				expect(t, "P4.1: "+name, got, err, api.Dyadic{}, api.ErrState, a, b)
				got, err = call(b, a)
				expect(t, "P4.1: "+name, got, err, api.Dyadic{}, api.ErrState, b, a)
			}
			if got, err := Cmp(a, b); got != 0 || err != api.ErrState {
				t.Errorf("P4.1: Cmp(%v, %v) = %d, error %d", brief(a), brief(b), got, err)
			}
			if got, err := Cmp(b, a); got != 0 || err != api.ErrState {
				t.Errorf("P4.1: Cmp(%v, %v) = %d, error %d", brief(b), brief(a), got, err)
			}
		}
	}
}

// P4.1: what the chapter says of each call, on numbers written out here.

func TestNormWrittenOut(t *testing.T) {
	for _, c := range []struct {
		a, want api.Dyadic
		err     api.Errno
	}{
		{plus(0), plus(0), api.OK}, {minus(0), plus(0), api.OK}, {minus(5), plus(0), api.OK},
		{plus(most, []uint64{}...), plus(0), api.OK}, {minus(-most, 0), plus(0), api.OK}, {minus(most, 0, 0), plus(0), api.OK},
		{plus(most, zeros(full)...), plus(0), api.OK}, {minus(-most, zeros(full)...), plus(0), api.OK},
		{plus(0, 12), plus(2, 3), api.OK}, {minus(0, 12, 0), minus(2, 3), api.OK}, {minus(-2, 12), minus(0, 3), api.OK},
		{plus(-7, 1), plus(-7, 1), api.OK}, {minus(9, 0, 6, 0), minus(74, 3), api.OK}, {plus(1, 1<<63, 1), plus(64, 3), api.OK},
		{plus(0, 0, 1<<63), plus(127, 1), api.OK}, {minus(0, top-1, top), minus(1, top, top>>1), api.OK},
		// The greatest Exp, and one beyond.
		{plus(most, 1), plus(most, 1), api.OK}, {minus(most, 7, 0), minus(most, 7), api.OK},
		{plus(most, 2), plus(0), api.ErrRange}, {minus(most, 6), plus(0), api.ErrRange}, {plus(most, 0, 1), plus(0), api.ErrRange},
		{plus(most-1, 2), plus(most, 1), api.OK}, {minus(most-1, 4), plus(0), api.ErrRange},
		{plus(most-64, 0, 1), plus(most, 1), api.OK}, {plus(most-63, 0, 1), plus(0), api.ErrRange},
		// The least one.
		{plus(-most, 1), plus(-most, 1), api.OK}, {minus(-most, 2), minus(-most+1, 1), api.OK},
		{plus(-most, power(2*most)...), plus(most, 1), api.OK}, {minus(-most, power(2*most+1)...), plus(0), api.ErrRange},
		{plus(-most, power(64*full-1)...), plus(0), api.ErrRange},
		// As many limbs as may be.
		{plus(0, ones(full)...), plus(0, ones(full)...), api.OK}, {minus(most, ones(full)...), minus(most, ones(full)...), api.OK},
		{minus(3, append(ones(full-1), 0)...), minus(3, ones(full-1)...), api.OK},
		{plus(-5, append(zeros(1), ones(full-1)...)...), plus(59, ones(full-1)...), api.OK},
		{minus(most, append([]uint64{5}, zeros(full-1)...)...), minus(most, 5), api.OK},
	} {
		got, err := Norm(c.a)
		expect(t, "P4.1: Norm", got, err, c.want, c.err, c.a)
		c.want.Neg = false
		got, err = Abs(c.a)
		expect(t, "P4.1: Abs", got, err, c.want, c.err, c.a)
	}
}

func TestOfWrittenOut(t *testing.T) {
	for _, c := range []struct {
		n, exp int
		want   api.Dyadic
		err    api.Errno
	}{
		{12, 0, plus(2, 3), api.OK}, // the chapter's example
		{-12, -2, minus(0, 3), api.OK}, {1, 0, plus(0, 1), api.OK}, {-1, 7, minus(7, 1), api.OK}, {96, -100, plus(-95, 3), api.OK},
		{0, 0, plus(0), api.OK}, {0, 5, plus(0), api.OK}, {0, most, plus(0), api.OK}, {0, -most, plus(0), api.OK},
		{0, most + 1, plus(0), api.ErrRange}, {0, -most - 1, plus(0), api.ErrRange},
		{1, most, plus(most, 1), api.OK}, {-1, -most, minus(-most, 1), api.OK}, {-5, most, minus(most, 5), api.OK},
		{1, most + 1, plus(0), api.ErrRange}, {1, -most - 1, plus(0), api.ErrRange},
		// What would be told at Exp -2^14 is no help: exp itself may not be.
		{2, -most - 1, plus(0), api.ErrRange}, {1 << 40, -most - 1, plus(0), api.ErrRange},
		{2, most, plus(0), api.ErrRange}, {-6, most, plus(0), api.ErrRange}, {2, most - 1, plus(most, 1), api.OK}, {4, most - 1, plus(0), api.ErrRange},
		{2, -most, plus(-most+1, 1), api.OK},
		{math.MaxInt, 0, plus(0, 1<<63-1), api.OK}, {math.MinInt, 0, minus(63, 1), api.OK}, {math.MinInt + 1, 0, minus(0, 1<<63-1), api.OK},
		{math.MaxInt, most, plus(most, 1<<63-1), api.OK}, {math.MinInt, most - 63, minus(most, 1), api.OK}, {math.MinInt, most - 62, plus(0), api.ErrRange},
		{math.MinInt, -most, minus(63-most, 1), api.OK}, {math.MaxInt - 1, most, plus(0), api.ErrRange},
		{1, math.MaxInt, plus(0), api.ErrRange}, {1, math.MinInt, plus(0), api.ErrRange}, {math.MinInt, math.MaxInt, plus(0), api.ErrRange}, {0, math.MinInt, plus(0), api.ErrRange},
	} {
		got, err := Of(c.n, c.exp)
		if !same(got, c.want) || err != c.err {
			t.Errorf("P4.1: Of(%d, %d) = %v, error %d; want %v, error %d", c.n, c.exp, got, err, c.want, c.err)
		}
	}
}

func TestCmpWrittenOut(t *testing.T) {
	for _, c := range []struct {
		a, b api.Dyadic
		want int
	}{
		{plus(0), minus(7, 0), 0}, {minus(most), plus(-most, 0, 0), 0}, {plus(-most, zeros(full)...), minus(most), 0},
		{plus(-most, 1), minus(most), 1}, {minus(-most, 1), plus(most, 0), -1}, {plus(3), plus(-most, 1), -1}, {minus(0), minus(-most, 1), 1},
		{plus(0, 12), plus(2, 3), 0}, {minus(1, 6, 0), minus(2, 3), 0}, {plus(0, 3), minus(0, 3), 1}, {minus(9, 1), plus(-9, 1), -1},
		{plus(0, 3), plus(0, 5), -1}, {minus(0, 3), minus(0, 5), 1}, {plus(1, 3), plus(0, 5), 1}, {minus(1, 3), minus(0, 5), -1},
		{plus(64, 1), plus(0, top), 1}, {plus(63, 1), plus(0, top), -1}, {plus(0, 0, 1), plus(64, 1), 0}, {minus(64, 1), minus(0, 1, 1), 1},
		{plus(most, 1), plus(-most, 1), 1}, {minus(most, 1), minus(-most, 1), -1},
		{plus(most, 1), plus(-most, power(2*most)...), 0}, {plus(most, 1), plus(-most, append([]uint64{1}, power(2*most-64)...)...), -1},
		{minus(most, 1), minus(-most, ones(2*most/64)...), -1}, {plus(-most, ones(full)...), plus(most, 1), 1},
		// These may be, though they can't be told with Abs odd: what is told is an int.
		{plus(most, 2), plus(most, 1), 1}, {plus(most, 2), plus(most, 2, 0), 0}, {minus(most, 6), minus(most-1, 12), 0}, {minus(most, 4), minus(most, 2), -1},
	} {
		if got, err := Cmp(c.a, c.b); got != c.want || err != api.OK {
			t.Errorf("P4.1: Cmp(%v, %v) = %d, error %d; want %d", brief(c.a), brief(c.b), got, err, c.want)
		}
	}
}

func TestAddWrittenOut(t *testing.T) {
	none := api.Dyadic{}
	for _, c := range []struct {
		a, b, sum api.Dyadic
		err       api.Errno
	}{
		{plus(0, 3), plus(0, 5), plus(3, 1), api.OK}, {plus(0, 3), minus(0, 5), minus(1, 1), api.OK}, {plus(1, 3), plus(-1, 1), plus(-1, 13), api.OK},
		{minus(5, 1), minus(4, 3), minus(4, 5), api.OK}, {plus(0, 12), minus(2, 3, 0), none, api.OK}, {minus(most, 1), plus(most, 1), none, api.OK},
		{plus(0), minus(9, 0), none, api.OK}, {minus(-most), minus(most, 0, 0), none, api.OK},
		{plus(most), minus(0, 12), minus(2, 3), api.OK}, {plus(0, 12, 0), minus(-most, 0), plus(2, 3), api.OK}, {minus(-most), plus(most, 5), plus(most, 5), api.OK},
		{plus(0, top), plus(0, 1), plus(64, 1), api.OK}, {plus(0, top, top), plus(0, 1), plus(128, 1), api.OK}, {plus(64, 1), minus(0, 1), plus(0, top), api.OK},
		// The greatest Exp, and one beyond.
		{plus(most, 1), plus(most, 1), none, api.ErrRange}, {plus(most, 3), plus(most, 5), none, api.ErrRange}, {minus(most, 2), plus(most, 4), none, api.ErrRange},
		{plus(most-1, 1), plus(most-1, 1), plus(most, 1), api.OK}, {minus(most-1, 1), minus(most-1, 3), none, api.ErrRange},
		{plus(most), plus(most, 2), none, api.ErrRange}, {plus(-most), minus(most, 2), none, api.ErrRange}, {plus(most, 2), plus(most, 1), plus(most, 3), api.OK},
		// One that can't be told with Abs odd, in sums that can.
		{plus(most, 2), minus(most, 1), plus(most, 1), api.OK}, {minus(most, 6), plus(most, 6), none, api.OK}, {plus(most, 0, 1), plus(most, 1), plus(most, 1, 1), api.OK},
		// The least Exp.
		{plus(-most, 1), plus(-most, 1), plus(-most+1, 1), api.OK}, {plus(-most+1, 1), minus(-most, 1), plus(-most, 1), api.OK},
		// Far apart.
		{plus(most, 1), plus(-most, 1), plus(-most, append([]uint64{1}, power(2*most-64)...)...), api.OK},
		{plus(-most, 1), minus(most, 1), minus(-most, ones(2*most/64)...), api.OK},
		// As many limbs as may be, and one more.
		{plus(0, ones(full)...), plus(0, 1), none, api.ErrRange}, {plus(-most, ones(full)...), plus(-most, 1), none, api.ErrRange},
		{plus(0, ones(full)...), plus(0, 2), none, api.ErrRange}, {plus(0, ones(full)...), minus(0, 1), plus(1, append(ones(full-1), top>>1)...), api.OK},
		{plus(0, ones(full)...), plus(1, ones(full)...), none, api.ErrRange}, {plus(0, ones(full)...), plus(0, ones(full)...), plus(1, ones(full)...), api.OK},
		{plus(most, power(2*most-1)...), minus(-most, 1), plus(-most, append(ones(full-1), top>>1)...), api.OK},
		{plus(most, power(2*most-1)...), plus(-most, 1), plus(-most, append(append([]uint64{1}, zeros(full-2)...), 1<<63)...), api.OK},
		{plus(most, power(2*most)...), plus(-most, 1), none, api.ErrRange}, {minus(-most, 1), minus(most, power(2*most)...), none, api.ErrRange},
		{plus(most, power(2*most)...), minus(-most, 1), plus(-most, ones(full)...), api.OK}, {plus(most, ones(full)...), plus(-most, ones(full)...), none, api.ErrRange},
	} {
		got, err := Add(c.a, c.b)
		expect(t, "P4.1: Add", got, err, c.sum, c.err, c.a, c.b)
		got, err = Add(c.b, c.a)
		expect(t, "P4.1: Add", got, err, c.sum, c.err, c.b, c.a)
		turned := c.b
		turned.Neg = !turned.Neg
		got, err = Sub(c.a, turned)
		expect(t, "P4.1: Sub", got, err, c.sum, c.err, c.a, turned)
	}
}

func TestMulWrittenOut(t *testing.T) {
	none := api.Dyadic{}
	half := append(ones(full/2-1), top)
	for _, c := range []struct {
		a, b, product api.Dyadic
		err           api.Errno
	}{
		{plus(0, 3), plus(0, 5), plus(0, 15), api.OK}, {minus(2, 3), plus(-7, 5, 0), minus(-5, 15), api.OK}, {minus(0, 6), minus(1, 10), plus(3, 15), api.OK},
		{plus(0), minus(0, 4), none, api.OK}, {minus(most, 0), minus(most, 5), none, api.OK}, {plus(-most, 0, 0), minus(-most, 5), none, api.OK}, {minus(-most), plus(-most), none, api.OK},
		{plus(0, top), minus(0, top), minus(0, 1, top-1), api.OK}, {plus(0, 0, 1), plus(0, 0, 3), plus(128, 3), api.OK},
		// The greatest Exp, and one beyond.
		{plus(most/2, 3), minus(most/2, 1), minus(most, 3), api.OK}, {plus(most/2, 3), plus(most/2+1, 1), none, api.ErrRange}, {plus(most/2, 2), plus(most/2, 1), none, api.ErrRange},
		{plus(most, 1), plus(0, 3), plus(most, 3), api.OK}, {plus(most, 1), plus(0, 2), none, api.ErrRange}, {minus(most, 1), plus(most, 1), none, api.ErrRange},
		{plus(most, 2), plus(-1, 1), plus(most, 1), api.OK}, {plus(most, power(64*full-1)...), minus(-most, 1), none, api.ErrRange},
		{plus(most, 2), minus(-most, 4, 0), minus(3, 1), api.OK}, {plus(-most, power(2*most)...), plus(-most, power(2*most)...), none, api.ErrRange},
		{plus(-most, power(2*most-1)...), plus(-most, power(most+1)...), plus(most, 1), api.OK},
		// The least one, and one beyond.
		{plus(-most/2, 3), minus(-most/2, 5), minus(-most, 15), api.OK}, {plus(-most/2, 3), plus(-most/2-1, 5), none, api.ErrRange}, {plus(-most/2, 6), plus(-most/2-1, 5), plus(-most, 15), api.OK},
		{plus(-most, 1), plus(0, 1), plus(-most, 1), api.OK}, {minus(-most, 1), plus(-1, 1), none, api.ErrRange}, {minus(-most, 1), plus(-most, 1), none, api.ErrRange},
		{plus(-most, power(most)...), plus(-most, 1), plus(-most, 1), api.OK}, {plus(-most, power(most-1)...), plus(-most, 1), none, api.ErrRange},
		{plus(-most, power(64*full-1)...), plus(-most, power(64*full-1)...), none, api.ErrRange},
		// As many limbs as may be, and one more.
		{plus(0, ones(full)...), minus(7, 1), minus(7, ones(full)...), api.OK}, {plus(0, ones(full)...), plus(0, 3), none, api.ErrRange}, {plus(0, ones(full)...), minus(0, 2), minus(1, ones(full)...), api.OK},
		{plus(0, half...), plus(0, 1, 0), plus(0, half...), api.OK}, {plus(0, half...), plus(0, ones(full/2+1)...), none, api.ErrRange},
		{plus(0, half...), minus(0, half...), minus(0, append(append([]uint64{1}, zeros(full/2-1)...), append([]uint64{top - 1}, ones(full/2-1)...)...)...), api.OK},
		{plus(0, ones(full)...), plus(0, ones(full)...), none, api.ErrRange},
		// 3 times as much as a third of all bits just fits.
		{plus(0, slices.Repeat([]uint64{top / 3}, full)...), plus(0, 3), plus(0, ones(full)...), api.OK},
	} {
		got, err := Mul(c.a, c.b)
		expect(t, "P4.1: Mul", got, err, c.product, c.err, c.a, c.b)
		got, err = Mul(c.b, c.a)
		expect(t, "P4.1: Mul", got, err, c.product, c.err, c.b, c.a)
	}
}

func TestAboveWrittenOut(t *testing.T) {
	none := api.Dyadic{}
	for _, c := range []struct {
		a    api.Dyadic
		bits int
		want api.Dyadic
		err  api.Errno
	}{
		// 11 is 1011.
		{plus(0, 11), 4, plus(0, 11), api.OK}, {plus(0, 11), 3, plus(2, 3), api.OK}, {plus(0, 11), 2, plus(2, 3), api.OK}, {plus(0, 11), 1, plus(4, 1), api.OK},
		{plus(0, 11), 0, plus(4, 1), api.OK}, {plus(0, 11), -1, plus(4, 1), api.OK}, {plus(0, 11), math.MinInt, plus(4, 1), api.OK},
		{plus(0, 11), 5, plus(0, 11), api.OK}, {plus(0, 11), math.MaxInt, plus(0, 11), api.OK},
		{minus(0, 11), 4, minus(0, 11), api.OK}, {minus(0, 11), 3, minus(1, 5), api.OK}, {minus(0, 11), 2, minus(3, 1), api.OK}, {minus(0, 11), 1, minus(3, 1), api.OK},
		{minus(0, 11), 0, minus(3, 1), api.OK}, {minus(0, 11), math.MinInt, minus(3, 1), api.OK}, {minus(0, 11), math.MaxInt, minus(0, 11), api.OK},
		// Bits of 1 alone: one more runs through all of them.
		{plus(0, 7), 3, plus(0, 7), api.OK}, {plus(0, 7), 2, plus(3, 1), api.OK}, {minus(0, 7), 2, minus(1, 3), api.OK}, {minus(5, 7), 1, minus(7, 1), api.OK},
		{plus(0, top), 64, plus(0, top), api.OK}, {plus(0, top), 63, plus(64, 1), api.OK}, {minus(0, top), 63, minus(1, top>>1), api.OK},
		{plus(0, top, top), 64, plus(128, 1), api.OK}, {minus(0, top, top), 64, minus(64, top), api.OK}, {plus(0, top, top), 128, plus(0, top, top), api.OK}, {plus(-3, top, top), 127, plus(125, 1), api.OK},
		// Zeros at the lower end, and limbs of 0 at the end, are no bits of the odd Abs.
		{plus(0, 12), 2, plus(2, 3), api.OK}, {plus(0, 12, 0), 1, plus(4, 1), api.OK}, {minus(0, 12), 2, minus(2, 3), api.OK}, {plus(0, 0, 1), 1, plus(64, 1), api.OK}, {plus(1, 8, 0, 0), 0, plus(4, 1), api.OK},
		{minus(0, 0, 5, 0), 2, minus(66, 1), api.OK}, {plus(0, 0, 5), 2, plus(65, 3), api.OK}, {plus(0, 1, 1), 64, plus(1, 1<<63+1), api.OK}, {plus(0, 1, 1), 65, plus(0, 1, 1), api.OK}, {plus(0, 1, 1), 1, plus(65, 1), api.OK},
		// 0 with either sign and any Exp.
		{plus(0), 1, none, api.OK}, {minus(most, 0), 5, none, api.OK}, {minus(-most, 0, 0), math.MinInt, none, api.OK}, {plus(7, zeros(full)...), 0, none, api.OK},
		// The greatest Exp, and one beyond.
		{plus(most, 3), 2, plus(most, 3), api.OK}, {plus(most, 3), 1, none, api.ErrRange}, {minus(most, 3), 1, none, api.ErrRange}, {plus(most-2, 3), 1, plus(most, 1), api.OK},
		{minus(most-1, 3), 1, minus(most, 1), api.OK}, {plus(most-1, 3), 1, none, api.ErrRange}, {plus(most, 1), 1, plus(most, 1), api.OK}, {plus(most, 2), 1, none, api.ErrRange}, {minus(most, 4), 9, none, api.ErrRange},
		{plus(-most, 1), 1, plus(-most, 1), api.OK}, {plus(-most, 3), 1, plus(-most+2, 1), api.OK}, {minus(-most, 3), 1, minus(-most+1, 1), api.OK},
		// As many limbs as may be.
		{plus(0, ones(full)...), 64 * full, plus(0, ones(full)...), api.OK}, {minus(0, ones(full)...), 64 * full, minus(0, ones(full)...), api.OK},
		{plus(-most, ones(full)...), 64*full - 1, none, api.ErrRange}, {minus(0, ones(full)...), 64*full - 1, minus(1, append(ones(full-1), top>>1)...), api.OK},
		{minus(-most, ones(full)...), 32 * full, minus(32*full-most, ones(full/2)...), api.OK}, {minus(-most, ones(full)...), 32*full - 1, none, api.ErrRange},
		{plus(0, append([]uint64{1}, power(64*full-65)...)...), 64*full - 1, plus(1, append(append([]uint64{1}, zeros(full-2)...), 1<<62)...), api.OK},
		{minus(-most, append(zeros(full/2), ones(full/2)...)...), 64, none, api.ErrRange}, {plus(-most, ones(2*most/64)...), 1, plus(most, 1), api.OK},
	} {
		got, err := Above(c.a, c.bits)
		expect(t, "P4.1: Above", got, err, c.want, c.err, c.a, plus(c.bits))
	}
}

// P4.1: every call against numbers that another program reckons.

func TestOneAgainstNumbers(t *testing.T) {
	for _, a := range append(samples(600, 9), long()...) {
		v := value(a)
		want, wantErr := expected(v, -room)
		got, err := Norm(a)
		expect(t, "P4.1: Norm", got, err, want, wantErr, a)
		want, wantErr = expected(new(big.Int).Abs(v), -room)
		got, err = Abs(a)
		expect(t, "P4.1: Abs", got, err, want, wantErr, a)
	}
}

func TestOfAgainstNumbers(t *testing.T) {
	s := source(3)
	for range 3000 {
		n, exp := int(s.next())>>(s.next()%64), s.exp()
		want, wantErr := expected(big.NewInt(int64(n)), exp)
		got, err := Of(n, exp)
		expect(t, "P4.1: Of", got, err, want, wantErr, plus(n), plus(exp))
	}
}

func twoAgainstNumbers(t *testing.T, all []api.Dyadic) {
	for _, a := range all {
		v := value(a)
		for _, b := range all {
			w := value(b)
			if got, err := Cmp(a, b); got != v.Cmp(w) || err != api.OK {
				t.Fatalf("P4.1: Cmp(%v, %v) = %d, error %d; want %d", brief(a), brief(b), got, err, v.Cmp(w))
			}
			want, wantErr := expected(new(big.Int).Add(v, w), -room)
			got, err := Add(a, b)
			expect(t, "P4.1: Add", got, err, want, wantErr, a, b)
			want, wantErr = expected(new(big.Int).Sub(v, w), -room)
			got, err = Sub(a, b)
			expect(t, "P4.1: Sub", got, err, want, wantErr, a, b)
			product := new(big.Int).Mul(natural(a.Abs), natural(b.Abs))
			if a.Neg != b.Neg {
				product.Neg(product)
			}
			want, wantErr = expected(product, a.Exp+b.Exp)
			got, err = Mul(a, b)
			expect(t, "P4.1: Mul", got, err, want, wantErr, a, b)
		}
		if t.Failed() {
			t.FailNow()
		}
	}
}

func TestTwoAgainstNumbers(t *testing.T) {
	twoAgainstNumbers(t, some(60, 7, 5))
}

func TestLongAgainstNumbers(t *testing.T) {
	twoAgainstNumbers(t, fewLong())
}

// leastAbove is the answer of Above by its meaning: of the numbers with that
// many bits in the place of a's highest one, the first that is not less.
func leastAbove(a api.Dyadic, bits int) (api.Dyadic, api.Errno) {
	v := value(a)
	cut := new(big.Int).Abs(v).BitLen() - max(bits, 1)
	if cut <= 0 {
		return expected(v, -room)
	}
	unit := new(big.Int).Lsh(big.NewInt(1), uint(cut))
	quotient, rest := new(big.Int).QuoRem(v, unit, new(big.Int))
	if rest.Sign() > 0 {
		quotient.Add(quotient, big.NewInt(1))
	}
	return expected(quotient, cut-room)
}

func TestAboveAgainstNumbers(t *testing.T) {
	for _, a := range append(some(500, 6, 2), long()...) {
		size := natural(a.Abs).BitLen()
		for _, bits := range []int{math.MinInt, -1, 0, 1, 2, 3, 63, 64, 65, 128, size / 2, size - 1, size, size + 1, math.MaxInt} {
			want, wantErr := leastAbove(a, bits)
			got, err := Above(a, bits)
			expect(t, "P4.1: Above", got, err, want, wantErr, a, plus(bits))
		}
	}
}

// Small numbers against each number that has so few bits, one by one.
func TestAboveOneByOne(t *testing.T) {
	for n := -200; n <= 200; n++ {
		for bits := -1; bits <= 9; bits++ {
			least := n
			for oddBits(least) > max(bits, 1) {
				least++
			}
			want, _ := Of(least, -3)
			a := api.Dyadic{Neg: n < 0, Abs: []uint64{uint64(max(n, -n))}, Exp: -3}
			got, err := Above(a, bits)
			expect(t, "P4.1: Above", got, err, want, api.OK, a, plus(bits))
		}
	}
}

// oddBits is how many bits n has without zeros at the lower end.
func oddBits(n int) int {
	v := big.NewInt(int64(n))
	return v.BitLen() - int(v.TrailingZeroBits())
}

// otherForms are a in other words: zeros at the end, Abs with more twos and a
// lower Exp, and if it is 0 with the other sign and any Exp.
func otherForms(a api.Dyadic) []api.Dyadic {
	out := []api.Dyadic{{Neg: a.Neg, Abs: append(slices.Clone(a.Abs), 0, 0), Exp: a.Exp}}
	if a.Exp >= -most+64 {
		out = append(out, api.Dyadic{Neg: a.Neg, Abs: append([]uint64{0}, a.Abs...), Exp: a.Exp - 64})
	}
	if natural(a.Abs).Sign() == 0 {
		out = append(out, api.Dyadic{Neg: !a.Neg, Abs: a.Abs, Exp: -a.Exp}, api.Dyadic{Neg: !a.Neg, Exp: most}, api.Dyadic{Exp: -most})
	}
	return out
}

// P4.1: a number is the same one in whatever form it comes.
func TestFormsAreOfNoMatter(t *testing.T) {
	all := some(25, 4, 9)
	for _, a := range all {
		for _, form := range otherForms(a) {
			for name, call := range one() {
				want, wantErr := call(a)
				got, err := call(form)
				expect(t, "P4.1: "+name, got, err, want, wantErr, form)
			}
			for _, b := range all {
				for name, call := range two() {
					want, wantErr := call(a, b)
					got, err := call(form, b)
					expect(t, "P4.1: "+name, got, err, want, wantErr, form, b)
					want, wantErr = call(b, a)
					got, err = call(b, form)
					expect(t, "P4.1: "+name, got, err, want, wantErr, b, form)
				}
				want, _ := Cmp(a, b)
				if got, err := Cmp(form, b); got != want || err != api.OK {
					t.Errorf("P4.1: Cmp(%v, %v) = %d, error %d; want %d", form, b, got, err, want)
				}
				if got, err := Cmp(b, form); got != -want || err != api.OK {
					t.Errorf("P4.1: Cmp(%v, %v) = %d, error %d; want %d", b, form, got, err, -want)
				}
			}
		}
	}
}

// P4.2: sums and products are as of numbers.

// tame are numbers whose sums and products of three can all be told.
func tame(count int) []api.Dyadic {
	s := source(count)
	out := []api.Dyadic{plus(0), minus(9, 0), plus(0, 1), minus(0, 1, 0), plus(3, 6), minus(-100, 5), plus(900, top), minus(-900, 0, top), plus(64, top, top)}
	for range count {
		out = append(out, api.Dyadic{Neg: s.next()%2 == 0, Abs: s.limbs(4), Exp: int(s.next()%2000) - 1000})
	}
	return out
}

// sure is the answer of a call that has one.
func sure(t *testing.T) func(a api.Dyadic, err api.Errno) api.Dyadic {
	return func(a api.Dyadic, err api.Errno) api.Dyadic {
		t.Helper()
		if err != api.OK {
			t.Fatalf("P4.2: error %d", err)
		}
		return a
	}
}

func TestAnyOrder(t *testing.T) {
	for _, all := range [][]api.Dyadic{some(40, 5, 5), fewLong()} {
		for _, a := range all {
			for _, b := range all {
				sum, sumErr := Add(b, a)
				got, err := Add(a, b)
				expect(t, "P4.2: Add", got, err, sum, sumErr, a, b)
				product, productErr := Mul(b, a)
				got, err = Mul(a, b)
				expect(t, "P4.2: Mul", got, err, product, productErr, a, b)
			}
		}
	}
}

func TestPutTogetherAnyWay(t *testing.T) {
	is := sure(t)
	all := tame(25)
	for _, a := range all {
		for _, b := range all {
			for _, c := range all {
				if !same(is(Add(is(Add(a, b)), c)), is(Add(a, is(Add(b, c))))) {
					t.Fatalf("P4.2: sums of %v, %v, %v", a, b, c)
				}
				if !same(is(Mul(is(Mul(a, b)), c)), is(Mul(a, is(Mul(b, c))))) {
					t.Fatalf("P4.2: products of %v, %v, %v", a, b, c)
				}
				if !same(is(Mul(a, is(Add(b, c)))), is(Add(is(Mul(a, b)), is(Mul(a, c))))) {
					t.Fatalf("P4.2: the product of %v with the sum of %v, %v", a, b, c)
				}
				if !same(is(Mul(a, is(Sub(b, c)))), is(Sub(is(Mul(a, b)), is(Mul(a, c))))) {
					t.Fatalf("P4.2: the product of %v with what %v is more than %v", a, b, c)
				}
			}
		}
	}
}

func TestPutBack(t *testing.T) {
	is := sure(t)
	all := tame(80)
	for _, a := range all {
		for _, b := range all {
			diff := is(Sub(a, b))
			if !same(is(Add(diff, b)), is(Norm(a))) || !same(is(Sub(is(Add(a, b)), b)), is(Norm(a))) || !same(is(Sub(a, diff)), is(Norm(b))) {
				t.Fatalf("P4.2: %v less %v is %v", a, b, diff)
			}
			order, err := Cmp(a, b)
			sign, signErr := Cmp(diff, plus(0))
			if order != sign || err != api.OK || signErr != api.OK {
				t.Fatalf("P4.2: %v less %v is %v, Cmp is %d", a, b, diff, order)
			}
			if !same(is(Abs(is(Mul(a, b)))), is(Mul(is(Abs(a)), is(Abs(b))))) || !same(is(Abs(diff)), is(Abs(is(Sub(b, a))))) {
				t.Fatalf("P4.2: Abs of %v and %v", a, b)
			}
		}
	}
}

func TestZeroAndOne(t *testing.T) {
	for _, a := range append(some(150, 5, 3), long()...) {
		want, wantErr := Norm(a)
		for _, none := range []api.Dyadic{plus(0), minus(0, 0), plus(most), minus(-most, 0, 0)} {
			got, err := Add(a, none)
			expect(t, "P4.2: Add", got, err, want, wantErr, a, none)
			got, err = Sub(a, none)
			expect(t, "P4.2: Sub", got, err, want, wantErr, a, none)
			got, err = Mul(none, a)
			expect(t, "P4.2: Mul", got, err, plus(0), api.OK, none, a)
		}
		got, err := Mul(a, plus(0, 1, 0))
		expect(t, "P4.2: Mul with 1", got, err, want, wantErr, a)
		got, err = Sub(a, a)
		expect(t, "P4.2: Sub from itself", got, err, plus(0), api.OK, a)
	}
}

// P4.3: what is handed in stays as it is, and an answer is new memory.

// roomy is a copy of a with limbs behind its end, in the same memory.
func roomy(a api.Dyadic) api.Dyadic {
	return api.Dyadic{Neg: a.Neg, Abs: append(slices.Clone(a.Abs), 11, 22, 33)[:len(a.Abs)], Exp: a.Exp}
}

// copied is a copy of a.
func copied(a api.Dyadic) api.Dyadic {
	return api.Dyadic{Neg: a.Neg, Abs: slices.Clone(a.Abs), Exp: a.Exp}
}

// spoil writes over all the memory of a, up to its capacity.
func spoil(a api.Dyadic) {
	limbs := a.Abs[:cap(a.Abs)]
	for i := range limbs {
		limbs[i] = ^limbs[i]
	}
}

// calls is both kinds of calls, each with two arguments.
func calls() map[string]func(a, b api.Dyadic) (api.Dyadic, api.Errno) {
	out := two()
	for name, call := range one() {
		out[name] = func(a, b api.Dyadic) (api.Dyadic, api.Errno) { return call(a) }
	}
	return out
}

func TestArgumentsStay(t *testing.T) {
	numbers := append(some(25, 5, 9), wrong()[:3]...)
	for _, first := range numbers {
		for _, second := range numbers {
			a, b := roomy(first), roomy(second)
			wholeA, wholeB := slices.Clone(a.Abs[:len(a.Abs)+3]), slices.Clone(b.Abs[:len(b.Abs)+3])
			for name, call := range calls() {
				call(a, b)
				Check(a)
				Cmp(a, b)
				if !slices.Equal(a.Abs[:len(a.Abs)+3], wholeA) || !slices.Equal(b.Abs[:len(b.Abs)+3], wholeB) {
					t.Fatalf("P4.3: %s, Check or Cmp changes %v, %v", name, brief(first), brief(second))
				}
			}
		}
	}
}

func TestAnswersAreNew(t *testing.T) {
	numbers := append(some(25, 5, 9), minus(3, ones(full)...), plus(0, 3), minus(0, 3), plus(0, 1))
	for name, call := range calls() {
		for _, first := range numbers {
			for _, second := range numbers {
				a, b := roomy(first), roomy(second)
				got, _ := call(a, b)
				other, _ := call(a, b)
				want := copied(got)
				spoil(got)
				if !same(a, first) || !same(b, second) || !same(other, want) {
					t.Fatalf("P4.3: what %s answers shares memory: %v, %v", name, brief(first), brief(second))
				}
				spoil(a)
				spoil(b)
				if !same(other, want) {
					t.Fatalf("P4.3: what %s answers is an argument's memory: %v, %v", name, brief(first), brief(second))
				}
			}
		}
	}
}

func TestOfAnswersNew(t *testing.T) {
	for _, n := range []int{0, 1, -1, 12, math.MaxInt, math.MinInt} {
		got, _ := Of(n, 5)
		want := copied(got)
		spoil(got)
		if again, _ := Of(n, 5); !same(again, want) {
			t.Errorf("P4.3: Of(%d, 5) = %v after its last answer was written over, want %v", n, again, want)
		}
	}
}

func TestArgumentsThatShare(t *testing.T) {
	for _, both := range append(samples(60, 7), minus(2, ones(full)...)) {
		kept := copied(both)
		size := len(both.Abs)
		low := api.Dyadic{Neg: both.Neg, Abs: both.Abs[:size*2/3], Exp: both.Exp}
		high := api.Dyadic{Neg: !both.Neg, Abs: both.Abs[size/3:], Exp: -both.Exp / 2}
		for name, call := range calls() {
			want, wantErr := call(copied(low), copied(high))
			got, err := call(low, high)
			expect(t, "P4.3: "+name+" of two parts", got, err, want, wantErr, low, high)
			want, wantErr = call(kept, copied(kept))
			got, err = call(both, both)
			expect(t, "P4.3: "+name+" with itself", got, err, want, wantErr, kept)
		}
		if !same(both, kept) {
			t.Fatalf("P4.3: %v was changed", brief(kept))
		}
	}
}
