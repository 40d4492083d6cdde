package shape_test

import (
	"math"
	"slices"
	"testing"

	"vernier/api"
)

const (
	sign  = uint64(1) << 63
	one   = uint64(0x3ff0000000000000) // 1
	great = uint64(0x7fefffffffffffff) // the greatest finite number
	inf   = uint64(0x7ff0000000000000)
)

// nans are NaNs of any fraction, both signs.
var nans = []uint64{inf + 1, api.NaN, api.NaN + 1, 1<<63 - 1, sign | inf + 1, sign | api.NaN, 1<<64 - 1}

// far are ints that are no side and no place of any matrix.
var far = []int{-1, -2, -64, math.MinInt, math.MinInt + 1, math.MaxInt, math.MaxInt - 1, 1 << 32, -1 << 32, 1<<32 + 1, 1 << 62}

// source is a rule of numbers that look mixed, the same in every run.
type source uint64

func (s *source) next() uint64 {
	*s += 0x9e3779b97f4a7c15
	z := uint64(*s)
	z = (z ^ z>>30) * 0xbf58476d1ce4e5b9
	z = (z ^ z>>27) * 0x94d049bb133111eb
	return z ^ z>>31
}

// words makes that many words of any kind; zeros, infinite ones and NaNs come
// up often.
func (s *source) words(count int) []uint64 {
	out := make([]uint64, count)
	for i := range out {
		out[i] = s.next()
		switch s.next() % 8 {
		case 0:
			out[i] &= sign
		case 1:
			out[i] |= inf
		case 2:
			out[i] = out[i]&sign | inf
		}
	}
	return out
}

// mat is a matrix, just as it comes.
func mat(rows, cols int, l ...uint64) api.Mat { return api.Mat{Rows: rows, Cols: cols, Data: l} }

// alike tells whether a and b are the same, side by side and word by word.
func alike(a, b api.Mat) bool {
	return a.Rows == b.Rows && a.Cols == b.Cols && slices.Equal(a.Data, b.Data)
}

// expect holds a matrix and its error against those wanted.
func expect(t *testing.T, what string, got api.Mat, err api.Errno, want api.Mat, wantErr api.Errno) {
	t.Helper()
	if !alike(got, want) || err != wantErr {
		t.Errorf("%s = %d by %d %#x, error %d; want %d by %d %#x, error %d", what, got.Rows, got.Cols, got.Data, err, want.Rows, want.Cols, want.Data, wantErr)
	}
}

// holdMemory holds a call against P2: it changes none of the lists that are
// handed in, up to their capacities, keeps none, and tells new memory each time.
func holdMemory[T uint64 | int](t *testing.T, what string, call func(in [][]T) []T, lists ...[]T) {
	t.Helper()
	in := make([][]T, len(lists))
	for i, l := range lists {
		in[i] = append(make([]T, 0, len(l)+3), l...)
	}
	out := call(in)
	for i, l := range lists {
		if want := append(slices.Clone(l), 0, 0, 0); !slices.Equal(in[i][:len(want)], want) {
			t.Errorf("P2: %s changes its list %d", what, i)
		}
	}
	told, again := slices.Clone(out), call(in)
	for _, l := range append(in, again) {
		for i := range l {
			l[i] = ^l[i]
		}
	}
	if len(out) == 0 || !slices.Equal(out, told) {
		t.Errorf("P2: %s tells %v in memory that is shared: %v", what, told, out)
	}
}
