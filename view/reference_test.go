package view_test

import (
	"math"
	"slices"
	"testing"

	"vernier/api"
)

const (
	sign = uint64(1) << 63
	inf  = uint64(0x7ff0000000000000)
	most = 1 << 20 // words at most
)

// far are ints that are no side and no place of any view.
var far = []int{-1, -2, -64, math.MinInt, math.MinInt + 1, math.MaxInt, math.MaxInt - 1, 1 << 32, -1 << 32, 1<<32 + 1, 1 << 62}

// sized is a view, just as it comes.
func sized(rows, cols, stride, off int) api.View {
	return api.View{Rows: rows, Cols: cols, Stride: stride, Off: off}
}

// counted are that many words, each with its number, some of them no numbers.
func counted(n int) []uint64 {
	out := make([]uint64, n)
	for i := range out {
		out[i] = uint64(i)
		switch i % 5 {
		case 1:
			out[i] |= inf
		case 2:
			out[i] |= sign
		}
	}
	return out
}

// from0 tells whether n is from 0 to top.
func from0(n, top int) bool { return n >= 0 && n <= top }

// numbers are the numbers of v's words, as the chapter has them.
func numbers(v api.View) []int {
	out := []int{}
	for i := 0; i < v.Rows; i++ {
		for j := 0; j < v.Cols; j++ {
			out = append(out, v.Off+i*v.Stride+j)
		}
	}
	return out
}

// mayBe tells whether v may be of so many words.
func mayBe(v api.View, words int) bool {
	if !from0(v.Rows, 64) || !from0(v.Cols, 64) || v.Stride < v.Cols || v.Stride > most || !from0(v.Off, most) {
		return false
	}
	l := numbers(v)
	return len(l) == 0 || l[len(l)-1] < words
}

// holdMemory holds a call against P2: it changes none of the lists that are
// handed in, up to their capacities, keeps none, and tells new memory each time.
func holdMemory[T uint64 | int](t *testing.T, what string, call func(in [][]T) []T, lists ...[]T) {
	t.Helper()
	in := make([][]T, len(lists))
	for i, l := range lists {
		in[i] = append(make([]T, 0, len(l)+3), l...)
	}
	out := call(in)
	for i, l := range lists {
		if want := append(slices.Clone(l), 0, 0, 0); !slices.Equal(in[i][:len(want)], want) {
			t.Errorf("P2: %s changes its list %d", what, i)
		}
	}
	told, again := slices.Clone(out), call(in)
	for _, l := range append(in, again) {
		for i := range l {
			l[i] = ^l[i]
		}
	}
	if len(out) == 0 || !slices.Equal(out, told) {
		t.Errorf("P2: %s tells %v in memory that is shared: %v", what, told, out)
	}
}
