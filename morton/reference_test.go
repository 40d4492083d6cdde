package morton_test

import (
	"math"
	"slices"
	"testing"

	"vernier/api"
)

const (
	sign = uint64(1) << 63
	inf  = uint64(0x7ff0000000000000)
)

// far are ints that are no side and no tile.
var far = []int{-1, -2, -64, math.MinInt, math.MinInt + 1, math.MaxInt, math.MaxInt - 1, 1 << 32, -1 << 32, 1<<32 + 1, 1 << 62}

// source is a rule of numbers that look mixed, the same in every run.
type source uint64

func (s *source) next() uint64 {
	*s += 0x9e3779b97f4a7c15
	z := uint64(*s)
	z = (z ^ z>>30) * 0xbf58476d1ce4e5b9
	z = (z ^ z>>27) * 0x94d049bb133111eb
	return z ^ z>>31
}

// words makes that many words of any kind, none of them +0; infinite ones and
// NaNs come up often.
func (s *source) words(count int) []uint64 {
	out := make([]uint64, count)
	for i := range out {
		out[i] = s.next() | 1
		switch s.next() % 6 {
		case 0:
			out[i] = sign
		case 1:
			out[i] |= inf
		case 2:
			out[i] = out[i]&sign | inf
		}
	}
	return out
}

// mat is a matrix, just as it comes.
func mat(rows, cols int, l ...uint64) api.Mat { return api.Mat{Rows: rows, Cols: cols, Data: l} }

// mayBe tells whether a layout may have these sides and this tile.
func mayBe(rows, cols, tile int) bool {
	return rows >= 1 && rows <= 64 && cols >= 1 && cols <= 64 && tile >= 1 && tile <= 8
}

// sideOf is how many tiles there are in each direction, told by trying.
func sideOf(rows, cols, tile int) int {
	for _, s := range []int{1, 2, 4, 8, 16, 32} {
		if rows <= s*tile && cols <= s*tile {
			return s
		}
	}
	return 64
}

// order tells, of a square of 2^k by 2^k tiles, the number of the one in row i
// and column j: quarter by quarter, the upper ones first, the left ones first.
func order(i, j, k int) int {
	if k == 0 {
		return 0
	}
	half := 1 << (k - 1)
	quarter := 0
	if i >= half {
		quarter, i = 2, i-half
	}
	if j >= half {
		quarter, j = quarter+1, j-half
	}
	return quarter*half*half + order(i, j, k-1)
}

// place is the number of the word at i, j, told by quarters.
func place(i, j, tile int) int {
	return order(i/tile, j/tile, 16)*tile*tile + i%tile*tile + j%tile
}

// holdMemory holds a call against P2: it changes none of the lists that are
// handed in, up to their capacities, keeps none, and tells new memory each time.
func holdMemory[T uint64 | int](t *testing.T, what string, call func(in [][]T) []T, lists ...[]T) {
	t.Helper()
	in := make([][]T, len(lists))
	for i, l := range lists {
		in[i] = append(make([]T, 0, len(l)+3), l...)
	}
	out := call(in)
	for i, l := range lists {
		if want := append(slices.Clone(l), 0, 0, 0); !slices.Equal(in[i][:len(want)], want) {
			t.Errorf("P2: %s changes its list %d", what, i)
		}
	}
	told, again := slices.Clone(out), call(in)
	for _, l := range append(in, again) {
		for i := range l {
			l[i] = ^l[i]
		}
	}
	if len(out) == 0 || !slices.Equal(out, told) {
		t.Errorf("P2: %s tells %v in memory that is shared: %v", what, told, out)
	}
}
