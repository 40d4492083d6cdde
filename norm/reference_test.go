package norm_test

import (
	"math"
	"slices"

	"vernier/api"
)

const (
	sign  = uint64(1) << 63
	one   = uint64(0x3ff0000000000000) // 1
	two   = uint64(0x4000000000000000) // 2
	least = uint64(0x0010000000000000) // 2^-1022, the smallest of e 1
	great = uint64(0x7fefffffffffffff) // the greatest finite number
	inf   = uint64(0x7ff0000000000000)
)

// lost are infinite ones, and NaNs of any fraction, both signs.
var lost = []uint64{inf, sign | inf, inf + 1, api.NaN, api.NaN + 1, 1<<63 - 1, sign | inf + 1, sign | api.NaN, 1<<64 - 1}

// of is the number that the machine tells.
var of = math.Float64bits

// power is 2^k, k from -1074 to 1023.
func power(k int) uint64 {
	if k < -1022 {
		return 1 << (k + 1074)
	}
	return uint64(k+1023) << 52
}

// plus, less, times and by are as the machine adds, subtracts, multiplies and
// divides.
func plus(a, b uint64) uint64 { return of(float64(math.Float64frombits(a) + math.Float64frombits(b))) }
func less(a, b uint64) uint64 { return of(float64(math.Float64frombits(a) - math.Float64frombits(b))) }
func times(a, b uint64) uint64 {
	return of(float64(math.Float64frombits(a) * math.Float64frombits(b)))
}
func by(a, b uint64) uint64 { return of(float64(math.Float64frombits(a) / math.Float64frombits(b))) }

func isNaN(a uint64) bool    { return a&^sign > inf }
func isFinite(a uint64) bool { return a&^sign < inf }

// source is a rule of numbers that look mixed, the same in every run.
type source uint64

func (s *source) next() uint64 {
	*s += 0x9e3779b97f4a7c15
	z := uint64(*s)
	z = (z ^ z>>30) * 0xbf58476d1ce4e5b9
	z = (z ^ z>>27) * 0x94d049bb133111eb
	return z ^ z>>31
}

// below is a number from 0 to n-1.
func (s *source) below(n int) int { return int(s.next() % uint64(n)) }

// near makes a number about 1, of either sign, its exponent at most n from 1's;
// zeros of both signs come up, too.
func (s *source) near(n int) uint64 {
	a := s.next() & (sign | 1<<52 - 1)
	switch s.below(12) {
	case 0:
		return a & sign
	case 1:
		return a&sign | one
	}
	return a | uint64(1023+s.below(2*n+1)-n)<<52
}

// finite makes a finite number of any size.
func (s *source) finite() uint64 {
	a := s.next()
	if !isFinite(a) || s.below(8) == 0 {
		return a & (sign | 1<<52 - 1)
	}
	return a
}

// row makes n numbers about 1.
func (s *source) row(n int) []uint64 {
	out := make([]uint64, n)
	for i := range out {
		out[i] = s.near(20)
	}
	return out
}

// mat is a matrix, just as it comes.
func mat(rows, cols int, l ...uint64) api.Mat { return api.Mat{Rows: rows, Cols: cols, Data: l} }

// filled is a matrix of one number.
func filled(rows, cols int, a uint64) api.Mat {
	return mat(rows, cols, slices.Repeat([]uint64{a}, rows*cols)...)
}

// with is a matrix with another number at one place.
func with(a api.Mat, place int, word uint64) api.Mat {
	out := mat(a.Rows, a.Cols, slices.Clone(a.Data)...)
	out.Data[place] = word
	return out
}

// broken are matrices that may not be.
func broken() []api.Mat {
	out := []api.Mat{{}, {Data: []uint64{}}, {Data: []uint64{one}}, mat(1, 1), mat(1, 1, one, one), mat(2, 2, one, one, one), mat(2, 2, one, one, one, one, inf), mat(-1, -1, one), mat(0, 1), mat(1, 0), filled(65, 1, one), filled(1, 65, inf)}
	for _, n := range []int{math.MinInt, math.MaxInt, 1 << 32, -1} {
		out = append(out, mat(n, 1, one), mat(1, n, one), mat(n, n, one))
	}
	return out
}

// fault is a matrix, and shape.Finite's error of it.
type fault struct {
	a   api.Mat
	err api.Errno
}

// faults are matrices that may not be, and some that are not finite.
func faults() []fault {
	var out []fault
	for _, a := range broken() {
		out = append(out, fault{a, api.ErrShape})
	}
	for _, word := range lost {
		for _, a := range []api.Mat{mat(1, 1, word), mat(2, 2, word, one, one, one), mat(2, 2, one, one, one, word), mat(3, 1, one, one, word), with(filled(64, 64, one), 4095, word)} {
			out = append(out, fault{a, api.ErrInput})
		}
	}
	return out
}

// mat makes a matrix of numbers about 1.
func (s *source) mat(rows, cols int) api.Mat { return mat(rows, cols, s.row(rows*cols)...) }

// source's mixed makes a matrix of numbers of all sizes but the greatest.
func (s *source) mixed(rows, cols int) api.Mat {
	out := mat(rows, cols)
	for range rows * cols {
		out.Data = append(out.Data, times(s.finite(), power(-12)))
	}
	return out
}
