package pivot_test

import (
	"fmt"
	"slices"
	"testing"

	"vernier/api"
	"vernier/pivot"
)

// shapes are sides of matrices that may be.
var shapes = [][2]int{{1, 1}, {1, 2}, {2, 1}, {2, 2}, {3, 2}, {4, 5}, {1, 64}, {64, 1}, {64, 64}}

func holdSearch(t *testing.T, a api.Mat, col, from, want int, wantErr api.Errno) {
	t.Helper()
	if got, err := pivot.Search(a, col, from); got != want || err != wantErr {
		t.Errorf("P24.1: Search(%d by %d %#x, %d, %d) = %d, error %d; want %d, error %d", a.Rows, a.Cols, a.Data, col, from, got, err, want, wantErr)
	}
}

// holdColumn holds Search of a column, which stands alone, and in the middle of
// others.
func holdColumn(t *testing.T, from, want int, column ...uint64) {
	t.Helper()
	n := len(column)
	holdSearch(t, mat(n, 1, column...), 0, from, want, api.OK)
	wide := mat(n, 3)
	for i, word := range column {
		wide.Data = append(wide.Data, []uint64{inf, great, api.NaN}[i%3], word, []uint64{great, inf}[i%2])
	}
	holdSearch(t, wide, 1, from, want, api.OK)
}

func TestSearch(t *testing.T) {
	for _, word := range []uint64{0, sign, one, inf, api.NaN} {
		holdColumn(t, 0, 0, word) // the chapter's example
	}
	holdColumn(t, 0, 1, one, two, one)
	holdColumn(t, 0, 2, one, sign|one, sign|two)
	holdColumn(t, 1, 1, one, two, one)
	holdColumn(t, 2, 2, one, two, one)
	// Of equal ones the first, whatever their signs.
	holdColumn(t, 0, 0, one, one, one)
	holdColumn(t, 0, 0, sign|one, one, one)
	holdColumn(t, 0, 1, 0, sign|two, two)
	holdColumn(t, 0, 1, 0, two, sign|two)
	holdColumn(t, 1, 1, sign|two, two, sign|two)
	// A greater one ahead of from is of no matter.
	holdColumn(t, 1, 2, great, one, two)
	holdColumn(t, 1, 1, inf, two, one, two)
	holdColumn(t, 3, 3, inf, two, two, 0)
	// Zeros and the least numbers.
	holdColumn(t, 0, 0, 0, sign, 0)
	holdColumn(t, 0, 0, sign, 0)
	holdColumn(t, 1, 1, 1, sign, 0)
	holdColumn(t, 0, 1, sign, sign|1, 1)
	holdColumn(t, 0, 2, least-1, sign|(least-1), least)
	holdColumn(t, 0, 2, one, one+1, sign|(one+2))
	// Infinite ones are the greatest.
	holdColumn(t, 0, 1, great, inf, sign|inf)
	holdColumn(t, 0, 1, great, sign|inf, inf)
	holdColumn(t, 0, 0, inf, great)
}

// P24.1: NaNs are passed over; of NaNs alone it is from.
func TestSearchNaN(t *testing.T) {
	for _, nan := range nans {
		holdColumn(t, 0, 0, nan, nan, nan)
		holdColumn(t, 1, 1, nan, nan, nan)
		holdColumn(t, 2, 2, nan, nan, nan)
		holdColumn(t, 1, 1, great, nan, nan)
		holdColumn(t, 0, 1, nan, sign, nan)
		holdColumn(t, 0, 2, nan, nan, 0)
		holdColumn(t, 0, 1, nan, one, nan, sign|one)
		holdColumn(t, 0, 3, nan, one, nan, two)
		holdColumn(t, 1, 3, inf, nan, one, sign|inf)
		holdColumn(t, 0, 0, one, nan)
	}
}

// P24.1: of many columns, against a plain search from the last row on.
func TestSearchMixed(t *testing.T) {
	s := source(1)
	for _, side := range shapes {
		a := mat(side[0], side[1], s.words(side[0]*side[1])...)
		for col := range side[1] {
			for from := range side[0] {
				want := from
				for i := side[0] - 1; i >= from; i-- {
					size, best := a.Data[i*side[1]+col]&^sign, a.Data[want*side[1]+col]&^sign
					if size <= inf && (best > inf || size >= best) {
						want = i
					}
				}
				holdSearch(t, a, col, from, want, api.OK)
			}
		}
	}
}

// P24.1: places that are none, behind matrices that may not be.
func TestSearchErrors(t *testing.T) {
	for _, side := range shapes {
		a := numbered(side[0], side[1])
		for _, n := range far {
			holdSearch(t, a, n, 0, 0, api.ErrRange)
			holdSearch(t, a, 0, n, 0, api.ErrRange)
			holdSearch(t, a, n, n, 0, api.ErrRange)
		}
		holdSearch(t, a, side[1], 0, 0, api.ErrRange)
		holdSearch(t, a, side[1], side[0]-1, 0, api.ErrRange)
		holdSearch(t, a, 0, side[0], 0, api.ErrRange)
		holdSearch(t, a, side[1]-1, side[0], 0, api.ErrRange)
		holdSearch(t, a, side[1]-1, side[0]-1, side[0]-1, api.OK)
	}
	for _, a := range broken() {
		holdSearch(t, a, 0, 0, 0, api.ErrShape)
		holdSearch(t, a, -1, 64, 0, api.ErrShape)
	}
}

func holdSwap(t *testing.T, a api.Mat, i, k int, want api.Mat, wantErr api.Errno) {
	t.Helper()
	got, err := pivot.Swap(a, i, k)
	expect(t, fmt.Sprintf("P24.1: Swap of %d by %d, %d, %d", a.Rows, a.Cols, i, k), got, err, want, wantErr)
}

func TestSwap(t *testing.T) {
	holdSwap(t, mat(3, 2, 1, 2, 3, 4, 5, 6), 0, 2, mat(3, 2, 5, 6, 3, 4, 1, 2), api.OK)
	for _, side := range shapes {
		rows := side[0]
		a := numbered(rows, side[1])
		for _, i := range []int{0, rows / 2, rows - 1} {
			for _, k := range []int{0, rows / 3, rows / 2, rows - 1} {
				order := upTo(rows)
				order[i], order[k] = order[k], order[i]
				holdSwap(t, a, i, k, rowsOf(a, order), api.OK)
			}
			for _, k := range append([]int{rows, rows + 1}, far...) {
				holdSwap(t, a, i, k, api.Mat{}, api.ErrRange)
				holdSwap(t, a, k, i, api.Mat{}, api.ErrRange)
				holdSwap(t, a, k, k, api.Mat{}, api.ErrRange)
			}
		}
	}
	for _, a := range broken() {
		holdSwap(t, a, 0, 0, api.Mat{}, api.ErrShape)
		holdSwap(t, a, -1, 64, api.Mat{}, api.ErrShape)
	}
}

func holdApply(t *testing.T, a api.Mat, swaps []int, want api.Mat, wantErr api.Errno) {
	t.Helper()
	got, err := pivot.Apply(a, swaps...)
	expect(t, fmt.Sprintf("P24.1: Apply of %d by %d, %d", a.Rows, a.Cols, swaps), got, err, want, wantErr)
}

func holdBack(t *testing.T, a api.Mat, swaps []int, want api.Mat, wantErr api.Errno) {
	t.Helper()
	got, err := pivot.Back(a, swaps...)
	expect(t, fmt.Sprintf("P24.1, P24.2: Back of %d by %d, %d", a.Rows, a.Cols, swaps), got, err, want, wantErr)
}

func TestApplyAndBack(t *testing.T) {
	for _, c := range []struct {
		swaps       []int
		apply, back []uint64
	}{
		{nil, []uint64{1, 2, 3}, []uint64{1, 2, 3}}, {[]int{}, []uint64{1, 2, 3}, []uint64{1, 2, 3}}, {[]int{0}, []uint64{1, 2, 3}, []uint64{1, 2, 3}}, {[]int{0, 1, 2}, []uint64{1, 2, 3}, []uint64{1, 2, 3}}, {[]int{2}, []uint64{3, 2, 1}, []uint64{3, 2, 1}},
		{[]int{1, 2}, []uint64{2, 3, 1}, []uint64{3, 1, 2}}, {[]int{1, 2, 2}, []uint64{2, 3, 1}, []uint64{3, 1, 2}}, {[]int{2, 2, 2}, []uint64{3, 1, 2}, []uint64{2, 3, 1}},
		// With a row ahead.
		{[]int{0, 0}, []uint64{2, 1, 3}, []uint64{2, 1, 3}}, {[]int{1, 2, 0}, []uint64{1, 3, 2}, []uint64{1, 3, 2}}, {[]int{1, 0, 0}, []uint64{3, 2, 1}, []uint64{3, 2, 1}}, {[]int{1, 1, 0}, []uint64{3, 1, 2}, []uint64{2, 3, 1}}, {[]int{0, 0, 1}, []uint64{2, 3, 1}, []uint64{3, 1, 2}},
	} {
		holdApply(t, mat(3, 1, 1, 2, 3), c.swaps, mat(3, 1, c.apply...), api.OK)
		holdBack(t, mat(3, 1, 1, 2, 3), c.swaps, mat(3, 1, c.back...), api.OK)
	}
	s := source(2)
	for _, side := range shapes {
		a := numbered(side[0], side[1])
		for range 30 {
			swaps := s.swaps(side[0])
			order, other := upTo(side[0]), upTo(side[0])
			for i, k := range swaps {
				order[i], order[k] = order[k], order[i]
			}
			for i := len(swaps) - 1; i >= 0; i-- {
				other[i], other[swaps[i]] = other[swaps[i]], other[i]
			}
			forth, back := rowsOf(a, order), rowsOf(a, other)
			holdApply(t, a, swaps, forth, api.OK)
			holdBack(t, a, swaps, back, api.OK)
			// P24.2: one behind the other it is the matrix.
			holdBack(t, forth, swaps, a, api.OK)
			holdApply(t, back, swaps, a, api.OK)
		}
	}
}

// P24.1: too many swaps, swaps with a row that is none, at any place; behind
// matrices that may not be.
func TestApplyAndBackErrors(t *testing.T) {
	for _, side := range shapes {
		rows := side[0]
		a := numbered(rows, side[1])
		holdApply(t, a, upTo(rows), a, api.OK)
		holdBack(t, a, upTo(rows), a, api.OK)
		for _, swaps := range [][]int{make([]int, rows+1), append(upTo(rows), 0), make([]int, 1000)} {
			holdApply(t, a, swaps, api.Mat{}, api.ErrRange)
			holdBack(t, a, swaps, api.Mat{}, api.ErrRange)
		}
		for _, row := range append([]int{rows, rows + 1}, far...) {
			for _, place := range []int{0, rows / 2, rows - 1} {
				swaps := upTo(rows)
				swaps[place] = row
				holdApply(t, a, swaps, api.Mat{}, api.ErrRange)
				holdBack(t, a, swaps, api.Mat{}, api.ErrRange)
				holdApply(t, a, swaps[:place+1], api.Mat{}, api.ErrRange)
				holdBack(t, a, swaps[:place+1], api.Mat{}, api.ErrRange)
			}
		}
	}
	for _, a := range broken() {
		for _, swaps := range [][]int{nil, {0}, {-1}, {64, 64}, make([]int, 65)} {
			holdApply(t, a, swaps, api.Mat{}, api.ErrShape)
			holdBack(t, a, swaps, api.Mat{}, api.ErrShape)
		}
	}
}

// P24.3: what is handed in isn't changed, and shares nothing with what is told.
func TestMemory(t *testing.T) {
	s := source(3)
	for _, side := range [][2]int{{1, 1}, {2, 3}, {4, 1}} {
		rows, cols := side[0], side[1]
		words := s.words(rows * cols)
		data := func(m api.Mat, _ api.Errno) []uint64 { return m.Data }
		for _, swaps := range [][]int{nil, upTo(rows), slices.Repeat([]int{rows - 1}, rows)} {
			holdMemory(t, "Apply", func(in [][]uint64) []uint64 { return data(pivot.Apply(mat(rows, cols, in[0]...), swaps...)) }, words)
			holdMemory(t, "Back", func(in [][]uint64) []uint64 { return data(pivot.Back(mat(rows, cols, in[0]...), swaps...)) }, words)
			holdMemory(t, "Apply, Back, their swaps", func(in [][]int) []int {
				forth, _ := pivot.Apply(mat(rows, cols, words...), in[0]...)
				back, _ := pivot.Back(forth, in[0]...)
				return []int{len(back.Data)}
			}, swaps)
		}
		for i := range rows {
			holdMemory(t, "Swap", func(in [][]uint64) []uint64 { return data(pivot.Swap(mat(rows, cols, in[0]...), 0, i)) }, words)
			holdMemory(t, "Search", func(in [][]uint64) []uint64 {
				place, _ := pivot.Search(mat(rows, cols, in[0]...), 0, i)
				return []uint64{uint64(place)}
			}, words)
		}
	}
}
