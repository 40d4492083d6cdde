package house_test

import (
	"math"
	"slices"
	"testing"

	"vernier/api"
)

const (
	sign  = uint64(1) << 63
	one   = uint64(0x3ff0000000000000) // 1
	two   = uint64(0x4000000000000000) // 2
	least = uint64(0x0010000000000000) // 2^-1022, the smallest of e 1
	great = uint64(0x7fefffffffffffff) // the greatest finite number
	inf   = uint64(0x7ff0000000000000)
)

// lost are infinite ones, and NaNs of any fraction, both signs.
var lost = []uint64{inf, sign | inf, inf + 1, api.NaN, api.NaN + 1, 1<<63 - 1, sign | inf + 1, sign | api.NaN, 1<<64 - 1}

// of is the number that the machine tells.
var of = math.Float64bits

// power is 2^k, k from -1074 to 1023.
func power(k int) uint64 {
	if k < -1022 {
		return 1 << (k + 1074)
	}
	return uint64(k+1023) << 52
}

// plus, less, times and by are as the machine adds, subtracts, multiplies and
// divides.
func plus(a, b uint64) uint64 { return of(float64(math.Float64frombits(a) + math.Float64frombits(b))) }
func less(a, b uint64) uint64 { return of(float64(math.Float64frombits(a) - math.Float64frombits(b))) }
func times(a, b uint64) uint64 {
	return of(float64(math.Float64frombits(a) * math.Float64frombits(b)))
}
func by(a, b uint64) uint64 { return of(float64(math.Float64frombits(a) / math.Float64frombits(b))) }

func isNaN(a uint64) bool    { return a&^sign > inf }
func isFinite(a uint64) bool { return a&^sign < inf }

// source is a rule of numbers that look mixed, the same in every run.
type source uint64

func (s *source) next() uint64 {
	*s += 0x9e3779b97f4a7c15
	z := uint64(*s)
	z = (z ^ z>>30) * 0xbf58476d1ce4e5b9
	z = (z ^ z>>27) * 0x94d049bb133111eb
	return z ^ z>>31
}

// below is a number from 0 to n-1.
func (s *source) below(n int) int { return int(s.next() % uint64(n)) }

// near makes a number about 1, of either sign, its exponent at most n from 1's;
// zeros of both signs come up, too.
func (s *source) near(n int) uint64 {
	a := s.next() & (sign | 1<<52 - 1)
	switch s.below(12) {
	case 0:
		return a & sign
	case 1:
		return a&sign | one
	}
	return a | uint64(1023+s.below(2*n+1)-n)<<52
}

// finite makes a finite number of any size.
func (s *source) finite() uint64 {
	a := s.next()
	if !isFinite(a) || s.below(8) == 0 {
		return a & (sign | 1<<52 - 1)
	}
	return a
}

// row makes n numbers about 1.
func (s *source) row(n int) []uint64 {
	out := make([]uint64, n)
	for i := range out {
		out[i] = s.near(20)
	}
	return out
}

// holdMemory holds a call against P2: it changes none of the lists that are
// handed in, up to their capacities, keeps none, and tells new memory each time.
func holdMemory[T uint64 | int](t *testing.T, what string, call func(in [][]T) []T, lists ...[]T) {
	t.Helper()
	in := make([][]T, len(lists))
	for i, l := range lists {
		in[i] = append(make([]T, 0, len(l)+3), l...)
	}
	out := call(in)
	for i, l := range lists {
		if want := append(slices.Clone(l), 0, 0, 0); !slices.Equal(in[i][:len(want)], want) {
			t.Errorf("P2: %s changes its list %d", what, i)
		}
	}
	told, again := slices.Clone(out), call(in)
	for _, l := range append(in, again) {
		for i := range l {
			l[i] = ^l[i]
		}
	}
	if len(out) == 0 || !slices.Equal(out, told) {
		t.Errorf("P2: %s tells %v in memory that is shared: %v", what, told, out)
	}
}

// root is as the machine takes it.
func root(a uint64) uint64 { return of(math.Sqrt(math.Float64frombits(a))) }

// dot is what comes of +0 when each product is added to it, by the machine.
func dot(x, y []uint64) uint64 {
	sum := uint64(0)
	for i := range x {
		sum = plus(sum, times(x[i], y[i]))
	}
	return sum
}

// made is v, tau and beta of x, whose numbers behind the first are not all zero,
// by the machine.
func made(x []uint64) ([]uint64, uint64, uint64) {
	beta := root(dot(x, x))
	if x[0]&sign == 0 {
		beta |= sign
	}
	v := []uint64{one}
	for _, word := range x[1:] {
		v = append(v, by(word, less(x[0], beta)))
	}
	return v, by(less(beta, x[0]), beta), beta
}

// mirrored is x, mirrored by v and tau, by the machine.
func mirrored(v []uint64, tau uint64, x []uint64) []uint64 {
	w, out := times(tau, dot(v, x)), []uint64{}
	for i := range x {
		out = append(out, less(x[i], times(w, v[i])))
	}
	return out
}

// list is numbers, just as they come.
func list(l ...uint64) []uint64 { return l }

// repeat is a n times.
func repeat(a uint64, n int) []uint64 { return slices.Repeat(list(a), n) }

// fault is a row that may not be, and vec.Check's error of it.
type fault struct {
	row []uint64
	err api.Errno
}

// faults are rows that may not be.
func faults() []fault {
	out := []fault{{repeat(one, 65), api.ErrShape}, {repeat(0, 66), api.ErrShape}, {repeat(api.NaN, 65), api.ErrShape}, {repeat(great, 1000), api.ErrShape}}
	for _, a := range lost {
		for _, row := range [][]uint64{{a}, {a, one}, {one, a}, {a, 0, 0}, {one, one, a}, append(repeat(great, 63), a)} {
			out = append(out, fault{row, api.ErrInput})
		}
	}
	return out
}
