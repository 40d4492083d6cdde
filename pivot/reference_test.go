package pivot_test

import (
	"math"
	"slices"
	"testing"

	"vernier/api"
)

const (
	sign  = uint64(1) << 63
	one   = uint64(0x3ff0000000000000) // 1
	two   = uint64(0x4000000000000000) // 2
	least = uint64(0x0010000000000000) // 2^-1022, the smallest of e 1
	great = uint64(0x7fefffffffffffff) // the greatest finite number
	inf   = uint64(0x7ff0000000000000)
)

// nans are NaNs of any fraction, both signs.
var nans = []uint64{inf + 1, api.NaN, api.NaN + 1, 1<<63 - 1, sign | inf + 1, sign | api.NaN, 1<<64 - 1}

// far are ints that are no row and no column.
var far = []int{-1, -2, -64, math.MinInt, math.MinInt + 1, math.MaxInt, math.MaxInt - 1, 1 << 32, -1 << 32, 1<<32 + 1, 1 << 62}

// source is a rule of numbers that look mixed, the same in every run.
type source uint64

func (s *source) next() uint64 {
	*s += 0x9e3779b97f4a7c15
	z := uint64(*s)
	z = (z ^ z>>30) * 0xbf58476d1ce4e5b9
	z = (z ^ z>>27) * 0x94d049bb133111eb
	return z ^ z>>31
}

// below is a number from 0 to n-1.
func (s *source) below(n int) int { return int(s.next() % uint64(n)) }

// words makes that many words of any kind; few sizes come up often, NaNs and
// infinite ones, too.
func (s *source) words(count int) []uint64 {
	out := make([]uint64, count)
	for i := range out {
		out[i] = s.next()
		switch s.below(6) {
		case 0:
			out[i] = out[i]&sign | inf
		case 1:
			out[i] |= inf
		case 2, 3:
			out[i] = out[i]&sign | one + uint64(s.below(3))
		}
	}
	return out
}

// swaps makes up to n of them.
func (s *source) swaps(n int) []int {
	out := make([]int, s.below(n+1))
	for i := range out {
		out[i] = s.below(n)
	}
	return out
}

// mat is a matrix, just as it comes.
func mat(rows, cols int, l ...uint64) api.Mat { return api.Mat{Rows: rows, Cols: cols, Data: l} }

// numbered is a matrix of any words, no two alike, some of them no numbers.
func numbered(rows, cols int) api.Mat {
	out := mat(rows, cols)
	for k := range rows * cols {
		out.Data = append(out.Data, uint64(k)|[]uint64{0, inf, sign, sign | inf, one}[k%5])
	}
	return out
}

// broken are matrices that may not be.
func broken() []api.Mat {
	out := []api.Mat{{}, {Data: []uint64{}}, {Data: []uint64{one}}, mat(1, 1), mat(1, 1, one, one), mat(2, 2, one, one, one), mat(2, 2, one, one, one, one, inf), mat(-1, -1, one), mat(0, 1), mat(1, 0), mat(65, 1, make([]uint64, 65)...), mat(1, 65, make([]uint64, 65)...)}
	for _, n := range []int{math.MinInt, math.MaxInt, 1 << 32, -1} {
		out = append(out, mat(n, 1, one), mat(1, n, one), mat(n, n, one))
	}
	return out
}

// rowsOf is a's rows, put in order.
func rowsOf(a api.Mat, order []int) api.Mat {
	out := mat(a.Rows, a.Cols)
	for _, i := range order {
		out.Data = append(out.Data, a.Data[i*a.Cols:(i+1)*a.Cols]...)
	}
	return out
}

// upTo is 0, 1, and so on, n of them.
func upTo(n int) []int {
	out := []int{}
	for i := range n {
		out = append(out, i)
	}
	return out
}

// expect holds a matrix and its error against those wanted.
func expect(t *testing.T, what string, got api.Mat, err api.Errno, want api.Mat, wantErr api.Errno) {
	t.Helper()
	if got.Rows != want.Rows || got.Cols != want.Cols || !slices.Equal(got.Data, want.Data) || err != wantErr {
		t.Errorf("%s = %d by %d %#x, error %d; want %d by %d %#x, error %d", what, got.Rows, got.Cols, got.Data, err, want.Rows, want.Cols, want.Data, wantErr)
	}
}

// holdMemory holds a call against P2: it changes none of the lists that are
// handed in, up to their capacities, keeps none, and tells new memory each time.
func holdMemory[T uint64 | int](t *testing.T, what string, call func(in [][]T) []T, lists ...[]T) {
	t.Helper()
	in := make([][]T, len(lists))
	for i, l := range lists {
		in[i] = append(make([]T, 0, len(l)+3), l...)
	}
	out := call(in)
	for i, l := range lists {
		if want := append(slices.Clone(l), 0, 0, 0); !slices.Equal(in[i][:len(want)], want) {
			t.Errorf("P2: %s changes its list %d", what, i)
		}
	}
	told, again := slices.Clone(out), call(in)
	for _, l := range append(in, again) {
		for i := range l {
			l[i] = ^l[i]
		}
	}
	if len(out) == 0 || !slices.Equal(out, told) {
		t.Errorf("P2: %s tells %v in memory that is shared: %v", what, told, out)
	}
}
