package resid_test

import (
	"math"
	"slices"
	"testing"

	"vernier/api"
)

const (
	sign  = uint64(1) << 63
	one   = uint64(0x3ff0000000000000) // 1
	two   = uint64(0x4000000000000000) // 2
	least = uint64(0x0010000000000000) // 2^-1022, the smallest of e 1
	great = uint64(0x7fefffffffffffff) // the greatest finite number
	inf   = uint64(0x7ff0000000000000)
)

// lost are infinite ones, and NaNs of any fraction, both signs.
var lost = []uint64{inf, sign | inf, inf + 1, api.NaN, api.NaN + 1, 1<<63 - 1, sign | inf + 1, sign | api.NaN, 1<<64 - 1}

// of is the number that the machine tells.
var of = math.Float64bits

// power is 2^k, k from -1074 to 1023.
func power(k int) uint64 {
	if k < -1022 {
		return 1 << (k + 1074)
	}
	return uint64(k+1023) << 52
}

// plus, less, times and by are as the machine adds, subtracts, multiplies and
// divides.
func plus(a, b uint64) uint64 { return of(float64(math.Float64frombits(a) + math.Float64frombits(b))) }
func less(a, b uint64) uint64 { return of(float64(math.Float64frombits(a) - math.Float64frombits(b))) }
func times(a, b uint64) uint64 {
	return of(float64(math.Float64frombits(a) * math.Float64frombits(b)))
}
func by(a, b uint64) uint64 { return of(float64(math.Float64frombits(a) / math.Float64frombits(b))) }

func isNaN(a uint64) bool    { return a&^sign > inf }
func isFinite(a uint64) bool { return a&^sign < inf }

// source is a rule of numbers that look mixed, the same in every run.
type source uint64

func (s *source) next() uint64 {
	*s += 0x9e3779b97f4a7c15
	z := uint64(*s)
	z = (z ^ z>>30) * 0xbf58476d1ce4e5b9
	z = (z ^ z>>27) * 0x94d049bb133111eb
	return z ^ z>>31
}

// below is a number from 0 to n-1.
func (s *source) below(n int) int { return int(s.next() % uint64(n)) }

// near makes a number about 1, of either sign, its exponent at most n from 1's;
// zeros of both signs come up, too.
func (s *source) near(n int) uint64 {
	a := s.next() & (sign | 1<<52 - 1)
	switch s.below(12) {
	case 0:
		return a & sign
	case 1:
		return a&sign | one
	}
	return a | uint64(1023+s.below(2*n+1)-n)<<52
}

// finite makes a finite number of any size.
func (s *source) finite() uint64 {
	a := s.next()
	if !isFinite(a) || s.below(8) == 0 {
		return a & (sign | 1<<52 - 1)
	}
	return a
}

// row makes n numbers about 1.
func (s *source) row(n int) []uint64 {
	out := make([]uint64, n)
	for i := range out {
		out[i] = s.near(20)
	}
	return out
}

// mat is a matrix, just as it comes.
func mat(rows, cols int, l ...uint64) api.Mat { return api.Mat{Rows: rows, Cols: cols, Data: l} }

// filled is a matrix of one number.
func filled(rows, cols int, a uint64) api.Mat {
	return mat(rows, cols, slices.Repeat([]uint64{a}, rows*cols)...)
}

// with is a matrix with another number at one place.
func with(a api.Mat, place int, word uint64) api.Mat {
	out := mat(a.Rows, a.Cols, slices.Clone(a.Data)...)
	out.Data[place] = word
	return out
}

// expect holds a matrix and its error against those wanted.
func expect(t *testing.T, what string, got api.Mat, err api.Errno, want api.Mat, wantErr api.Errno) {
	t.Helper()
	if got.Rows != want.Rows || got.Cols != want.Cols || !slices.Equal(got.Data, want.Data) || err != wantErr {
		t.Errorf("%s = %d by %d %#x, error %d; want %d by %d %#x, error %d", what, got.Rows, got.Cols, got.Data, err, want.Rows, want.Cols, want.Data, wantErr)
	}
}

// broken are matrices that may not be.
func broken() []api.Mat {
	out := []api.Mat{{}, {Data: []uint64{}}, {Data: []uint64{one}}, mat(1, 1), mat(1, 1, one, one), mat(2, 2, one, one, one), mat(2, 2, one, one, one, one, inf), mat(-1, -1, one), mat(0, 1), mat(1, 0), filled(65, 1, one), filled(1, 65, inf)}
	for _, n := range []int{math.MinInt, math.MaxInt, 1 << 32, -1} {
		out = append(out, mat(n, 1, one), mat(1, n, one), mat(n, n, one))
	}
	return out
}

// fault is a matrix, and shape.Finite's error of it.
type fault struct {
	a   api.Mat
	err api.Errno
}

// faults are matrices that may not be, and some that are not finite.
func faults() []fault {
	var out []fault
	for _, a := range broken() {
		out = append(out, fault{a, api.ErrShape})
	}
	for _, word := range lost {
		for _, a := range []api.Mat{mat(1, 1, word), mat(2, 2, word, one, one, one), mat(2, 2, one, one, one, word), mat(3, 1, one, one, word), with(filled(64, 64, one), 4095, word)} {
			out = append(out, fault{a, api.ErrInput})
		}
	}
	return out
}

// mat makes a matrix of numbers about 1.
func (s *source) mat(rows, cols int) api.Mat { return mat(rows, cols, s.row(rows*cols)...) }

// holdMemory holds a call against P2: it changes none of the lists that are
// handed in, up to their capacities, keeps none, and tells new memory each time.
func holdMemory[T uint64 | int](t *testing.T, what string, call func(in [][]T) []T, lists ...[]T) {
	t.Helper()
	in := make([][]T, len(lists))
	for i, l := range lists {
		in[i] = append(make([]T, 0, len(l)+3), l...)
	}
	out := call(in)
	for i, l := range lists {
		if want := append(slices.Clone(l), 0, 0, 0); !slices.Equal(in[i][:len(want)], want) {
			t.Errorf("P2: %s changes its list %d", what, i)
		}
	}
	told, again := slices.Clone(out), call(in)
	for _, l := range append(in, again) {
		for i := range l {
			l[i] = ^l[i]
		}
	}
	if len(out) == 0 || !slices.Equal(out, told) {
		t.Errorf("P2: %s tells %v in memory that is shared: %v", what, told, out)
	}
}

// list is numbers, just as they come.
func list(l ...uint64) []uint64 { return l }

// transposed is a, which may be, with its rows as columns.
func transposed(a api.Mat) api.Mat {
	out := mat(a.Cols, a.Rows)
	for j := range a.Cols {
		for i := range a.Rows {
			out.Data = append(out.Data, a.Data[i*a.Cols+j])
		}
	}
	return out
}

// product is a times b, as the machine adds and multiplies, from +0 on.
func product(a, b api.Mat) api.Mat {
	out := mat(a.Rows, b.Cols)
	for i := range a.Rows {
		for j := range b.Cols {
			sum := uint64(0)
			for k := range a.Cols {
				sum = plus(sum, times(a.Data[i*a.Cols+k], b.Data[k*b.Cols+j]))
			}
			out.Data = append(out.Data, sum)
		}
	}
	return out
}

// unit is 1 on the diagonal, else +0.
func unit(n int) api.Mat {
	out := filled(n, n, 0)
	for i := range n {
		out.Data[i*n+i] = one
	}
	return out
}

// halved is the half of a that counts, else +0; unit: 1 on the diagonal.
func halved(a api.Mat, upper, unit bool) api.Mat {
	out := filled(a.Rows, a.Cols, 0)
	for k, word := range a.Data {
		switch i, j := k/a.Cols, k%a.Cols; {
		case i == j && unit:
			out.Data[k] = one
		case i == j, i < j == upper:
			out.Data[k] = word
		}
	}
	return out
}

// swapped is a with row i and row swaps[i] in each other's places, from the first
// on.
func swapped(a api.Mat, swaps []int) api.Mat {
	out := mat(a.Rows, a.Cols, slices.Clone(a.Data)...)
	for i, k := range swaps {
		for j := range a.Cols {
			x, y := &out.Data[i*a.Cols+j], &out.Data[k*a.Cols+j]
			*x, *y = *y, *x
		}
	}
	return out
}

// wide makes a matrix of finite numbers of any size, the greatest and the least
// among them.
func (s *source) wide(rows, cols int) api.Mat {
	out := mat(rows, cols)
	for range rows * cols {
		out.Data = append(out.Data, []uint64{s.finite(), s.finite(), great, sign | great, 1, sign | 1, least, 0, sign, one}[s.below(10)])
	}
	return out
}

// smalls is a matrix of whole numbers from -most to most.
func (s *source) smalls(rows, cols, most int) api.Mat {
	out := mat(rows, cols)
	for range rows * cols {
		out.Data = append(out.Data, of(float64(s.below(2*most+1)-most)))
	}
	return out
}
