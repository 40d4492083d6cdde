package mwino_test

import (
	"fmt"
	"math"
	"slices"
	"testing"

	"vernier/api"
	"vernier/mwino"
)

// expectWords holds words and an error against those wanted.
func expectWords(t *testing.T, what string, got []uint64, err api.Errno, want []uint64, wantErr api.Errno) {
	t.Helper()
	if !slices.Equal(got, want) || err != wantErr {
		t.Errorf("%s = %#x, error %d; want %#x, error %d", what, got, err, want, wantErr)
	}
}

// holdMul holds Mul of a's and b's layouts, whatever stands where no place is.
func holdMul(t *testing.T, a, b api.Mat, tile, cutoff int, want api.Mat, wantErr api.Errno) {
	t.Helper()
	var words []uint64
	if wantErr == api.OK {
		words = tiles(want, tile, 0)
	}
	for _, rest := range []uint64{0, one, sign, api.NaN} {
		got, err := mwino.Mul(tiles(a, tile, rest), tiles(b, tile, rest), a.Rows, a.Cols, b.Cols, tile, cutoff)
		expectWords(t, fmt.Sprintf("P28.1: Mul of %d by %d and %d by %d, tile %d, cutoff %d", a.Rows, a.Cols, b.Rows, b.Cols, tile, cutoff), got, err, words, wantErr)
	}
}

// P28.1, P28.2: a product of tiles is that of rows, with each tile and cutoff.
func TestMul(t *testing.T) {
	holdMul(t, mat(1, 1, of(3)), mat(1, 1, of(-5)), 1, 1, mat(1, 1, of(-15)), api.OK)
	s := source(1)
	for _, x := range [][3]int{{1, 1, 1}, {2, 2, 2}, {3, 3, 3}, {1, 5, 1}, {5, 1, 4}, {5, 7, 6}, {2, 9, 3}, {8, 8, 8}, {17, 3, 16}} {
		a, b := s.mat(x[0], x[1]), s.mat(x[1], x[2])
		for tile := range 8 {
			for _, c := range []int{1, 2, 3, 64, math.MaxInt} {
				holdMul(t, a, b, tile+1, c, seven(a, b, c), api.OK)
			}
		}
	}
	for _, x := range [][5]int{{64, 64, 64, 8, 16}, {64, 64, 64, 3, 64}, {63, 64, 33, 7, 9}, {64, 1, 64, 8, 1}, {1, 64, 1, 1, 1}} {
		a, b := s.mat(x[0], x[1]), s.mat(x[1], x[2])
		holdMul(t, a, b, x[3], x[4], seven(a, b, x[4]), api.OK)
	}
	// Signs of zeros, and -0 in the corner of a tile.
	for _, zero := range []uint64{0, sign} {
		a, b := filled(3, 3, zero), filled(3, 3, sign|one)
		holdMul(t, a, b, 2, 1, seven(a, b, 1), api.OK)
	}
}

// layouts are sides and tiles that may not be.
func layouts() [][3]int {
	out := [][3]int{{2, 2, 0}, {2, 2, 9}, {2, 2, -1}, {0, 2, 2}, {2, 0, 2}, {65, 2, 2}, {2, 65, 2}, {-1, 2, 2}, {2, -1, 2}, {0, 0, 0}}
	for _, n := range []int{math.MinInt, math.MaxInt, 1 << 32, 1<<32 + 1, 64 << 32} {
		out = append(out, [3]int{n, 2, 2}, [3]int{2, n, 2}, [3]int{2, 2, n}, [3]int{n, n, n})
	}
	return out
}

// P28.1: morton.From's errors, a's first; then Product's.
func TestMulErrors(t *testing.T) {
	hold := func(a, b []uint64, m, k, n, tile, cutoff int, want api.Errno) {
		t.Helper()
		got, err := mwino.Mul(a, b, m, k, n, tile, cutoff)
		expectWords(t, fmt.Sprintf("P28.1: Mul of %d and %d words, %d, %d, %d, tile %d, cutoff %d", len(a), len(b), m, k, n, tile, cutoff), got, err, nil, want)
	}
	four, nan := slices.Repeat([]uint64{one}, 4), slices.Repeat([]uint64{api.NaN}, 4)
	for _, x := range layouts() {
		for _, l := range [][]uint64{nil, {}, four, nan, make([]uint64, 4096)} {
			hold(l, l, x[0], x[1], 2, x[2], 1, api.ErrShape)
			hold(four, l, 2, x[0], x[1], x[2], 0, api.ErrShape)
		}
	}
	// a's ErrLong goes ahead of b's ErrShape; both ahead of numbers, these of the
	// cutoff.
	for _, l := range [][]uint64{nil, {}, four[:3], append(slices.Clone(four), 0), nan[:1], make([]uint64, 16)} {
		hold(l, four, 2, 2, 2, 1, 0, api.ErrLong)
		hold(l, four, 2, 2, 0, 1, 0, api.ErrLong)
		hold(l, nil, 2, 2, 65, 2, 1, api.ErrLong)
		hold(four, l, 2, 2, 2, 1, 1, api.ErrLong)
		hold(nan, l, 2, 2, 2, 2, 0, api.ErrLong)
	}
	hold(four, four, 1, 1, 1, 1, 1, api.ErrLong)
	hold(four[:1], four, 1, 1, 2, 2, 1, api.ErrLong)
	for _, word := range lost {
		for at := range 4 {
			for _, c := range []int{0, 1, 64} {
				bad := with(mat(2, 2, four...), at, word).Data
				hold(bad, four, 2, 2, 2, 1, c, api.ErrInput)
				hold(four, bad, 2, 2, 2, 2, c, api.ErrInput)
			}
		}
	}
	for _, c := range []int{0, -1, math.MinInt} {
		hold(four, four, 2, 2, 2, 1, c, api.ErrRange)
		hold(slices.Repeat([]uint64{great}, 4), four, 1, 1, 1, 2, c, api.ErrRange)
	}
	for at := range 4 {
		for _, c := range []int{1, 2} {
			hold(with(filled(2, 2, 0), at, power(600)).Data, slices.Repeat([]uint64{power(600)}, 4), 2, 2, 2, 2, c, api.ErrOverflow)
		}
	}
	// The sum s2 alone is not finite: by seven products only.
	half := []uint64{sign | great, 0, 0, great}
	hold(half, make([]uint64, 4), 2, 2, 2, 1, 1, api.ErrOverflow)
	holdMul(t, mat(2, 2, half...), filled(2, 2, 0), 1, 2, filled(2, 2, 0), api.OK)
}

// shapes are of matrices of any shape.
var shapes = [][2]int{{1, 1}, {1, 2}, {2, 1}, {2, 2}, {2, 3}, {5, 3}, {1, 64}, {64, 1}, {9, 17}, {64, 64}}

func TestMap(t *testing.T) {
	s := source(2)
	for _, x := range shapes {
		for _, tile := range []int{1, 2, 3, 5, 8} {
			for _, f := range []uint64{0, sign, one, sign | two, one + 1, s.near(30)} {
				a := s.mat(x[0], x[1])
				want := mat(a.Rows, a.Cols)
				for _, word := range a.Data {
					want.Data = append(want.Data, times(f, word))
				}
				for _, rest := range []uint64{0, one, sign, inf} {
					got, err := mwino.Map(tiles(a, tile, rest), a.Rows, a.Cols, tile, f)
					expectWords(t, fmt.Sprintf("P28.1: Map of %d by %d, tile %d, by %#x", a.Rows, a.Cols, tile, f), got, err, tiles(want, tile, 0), api.OK)
				}
			}
		}
	}
	hold := func(a []uint64, rows, cols, tile int, x uint64, want api.Errno) {
		t.Helper()
		got, err := mwino.Map(a, rows, cols, tile, x)
		expectWords(t, fmt.Sprintf("P28.1: Map of %d words, %d by %d, tile %d, by %#x", len(a), rows, cols, tile, x), got, err, nil, want)
	}
	four := slices.Repeat([]uint64{great}, 4)
	for _, x := range append([]uint64{one, two}, lost...) {
		for _, l := range layouts() {
			hold(four, l[0], l[1], l[2], x, api.ErrShape)
			hold(nil, l[0], l[1], l[2], x, api.ErrShape)
		}
		for _, l := range [][]uint64{nil, four[:3], append(slices.Clone(four), inf), make([]uint64, 64)} {
			hold(l, 2, 2, 1, x, api.ErrLong)
			hold(l, 1, 2, 2, x, api.ErrLong)
		}
		for _, word := range lost {
			hold([]uint64{0, 0, word, 0}, 2, 2, 1, x, api.ErrInput)
		}
	}
	for _, word := range lost {
		hold(four, 2, 2, 1, word, api.ErrInput)
	}
	for at := range 4 {
		hold(with(filled(2, 2, one), at, great).Data, 2, 2, 2, two, api.ErrOverflow)
	}
}

func TestTranspose(t *testing.T) {
	s := source(3)
	for _, x := range shapes {
		for tile := range 8 {
			a := s.mat(x[0], x[1])
			for k := range a.Data {
				if k%3 == 0 {
					a.Data[k] = append(lost, sign, 0, 1)[s.below(12)]
				}
			}
			for _, rest := range []uint64{0, one, sign, inf} {
				got, err := mwino.Transpose(tiles(a, tile+1, rest), a.Rows, a.Cols, tile+1)
				expectWords(t, fmt.Sprintf("P28.1: Transpose of %d by %d, tile %d", a.Rows, a.Cols, tile+1), got, err, tiles(transposed(a), tile+1, 0), api.OK)
			}
		}
	}
	four := filled(2, 2, one).Data
	hold := func(a []uint64, rows, cols, tile int, want api.Errno) {
		t.Helper()
		got, err := mwino.Transpose(a, rows, cols, tile)
		expectWords(t, fmt.Sprintf("P28.1: Transpose of %d words, %d by %d, tile %d", len(a), rows, cols, tile), got, err, nil, want)
	}
	for _, l := range layouts() {
		hold(four, l[0], l[1], l[2], api.ErrShape)
		hold(nil, l[0], l[1], l[2], api.ErrShape)
	}
	for _, l := range [][]uint64{nil, four[:3], append(slices.Clone(four), inf), make([]uint64, 64)} {
		hold(l, 2, 2, 1, api.ErrLong)
		hold(l, 2, 1, 2, api.ErrLong)
	}
}

// P28.3: what is handed in isn't changed, and shares nothing with what is told.
func TestMemory(t *testing.T) {
	s := source(4)
	for _, n := range []int{1, 2, 3} {
		for _, tile := range []int{1, 2, 8} {
			a, b := tiles(s.mat(n, n), tile, 0), tiles(s.mat(n, n), tile, 0)
			holdMemory(t, "Mul", func(in [][]uint64) []uint64 {
				got, _ := mwino.Mul(in[0], in[1], n, n, n, tile, 1)
				return got
			}, a, b)
			holdMemory(t, "Map", func(in [][]uint64) []uint64 {
				got, _ := mwino.Map(in[0], n, n, tile, one)
				return got
			}, a)
			holdMemory(t, "Transpose", func(in [][]uint64) []uint64 {
				got, _ := mwino.Transpose(in[0], n, n, tile)
				return got
			}, a)
		}
	}
}
