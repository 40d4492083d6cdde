package perm_test

import (
	"math"
	"slices"
	"testing"

	"vernier/api"
)

const (
	sign = uint64(1) << 63
	inf  = uint64(0x7ff0000000000000)
)

// far are ints that are no row of any matrix.
var far = []int{-1, -2, -64, math.MinInt, math.MinInt + 1, math.MaxInt, math.MaxInt - 1, 1 << 32, -1 << 32, 1<<32 + 1, 1 << 62}

// source is a rule of numbers that look mixed, the same in every run.
type source uint64

func (s *source) next() uint64 {
	*s += 0x9e3779b97f4a7c15
	z := uint64(*s)
	z = (z ^ z>>30) * 0xbf58476d1ce4e5b9
	z = (z ^ z>>27) * 0x94d049bb133111eb
	return z ^ z>>31
}

// below is a number from 0 to n-1.
func (s *source) below(n int) int { return int(s.next() % uint64(n)) }

// words makes that many words of any kind.
func (s *source) words(count int) []uint64 {
	out := make([]uint64, count)
	for i := range out {
		out[i] = s.next()
		switch s.below(6) {
		case 0:
			out[i] &= sign
		case 1:
			out[i] |= inf
		}
	}
	return out
}

// permutation makes one of n: each place in turn takes one of what is left.
func (s *source) permutation(n int) []int {
	left, out := upTo(n), []int{}
	for len(left) > 0 {
		k := s.below(len(left))
		out = append(out, left[k])
		left = slices.Delete(left, k, k+1)
	}
	return out
}

// swaps makes up to n of them.
func (s *source) swaps(n int) []int {
	out := make([]int, s.below(n+1))
	for i := range out {
		out[i] = s.below(n)
	}
	return out
}

// upTo is 0, 1, and so on, n of them.
func upTo(n int) []int {
	out := []int{}
	for i := range n {
		out = append(out, i)
	}
	return out
}

// mat is a matrix, just as it comes.
func mat(rows, cols int, l ...uint64) api.Mat { return api.Mat{Rows: rows, Cols: cols, Data: l} }

// mayBe tells whether p is a permutation, by its numbers in order.
func mayBe(p []int) bool {
	return len(p) <= 64 && slices.Equal(slices.Sorted(slices.Values(p)), upTo(len(p)))
}

// inversions is how many pairs of p are not in order.
func inversions(p []int) int {
	count := 0
	for i := range p {
		for j := range i {
			if p[j] > p[i] {
				count++
			}
		}
	}
	return count
}

// all are all permutations of n.
func all(n int) [][]int {
	if n == 0 {
		return [][]int{{}}
	}
	var out [][]int
	for _, p := range all(n - 1) {
		for k := range n {
			out = append(out, slices.Insert(slices.Clone(p), k, n-1))
		}
	}
	return out
}

// holdMemory holds a call against P2: it changes none of the lists that are
// handed in, up to their capacities, keeps none, and tells new memory each time.
func holdMemory[T uint64 | int](t *testing.T, what string, call func(in [][]T) []T, lists ...[]T) {
	t.Helper()
	in := make([][]T, len(lists))
	for i, l := range lists {
		in[i] = append(make([]T, 0, len(l)+3), l...)
	}
	out := call(in)
	for i, l := range lists {
		if want := append(slices.Clone(l), 0, 0, 0); !slices.Equal(in[i][:len(want)], want) {
			t.Errorf("P2: %s changes its list %d", what, i)
		}
	}
	told, again := slices.Clone(out), call(in)
	for _, l := range append(in, again) {
		for i := range l {
			l[i] = ^l[i]
		}
	}
	if len(out) == 0 || !slices.Equal(out, told) {
		t.Errorf("P2: %s tells %v in memory that is shared: %v", what, told, out)
	}
}
