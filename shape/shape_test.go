package shape_test

import (
	"fmt"
	"slices"
	"testing"

	"vernier/api"
	"vernier/shape"
)

// sides are sides that may be, and some that may not.
func sides() []int {
	return append([]int{0, 1, 2, 3, 63, 64, 65, 128}, far...)
}

// may tells whether a matrix may have these sides.
func may(rows, cols int) bool { return rows >= 1 && rows <= 64 && cols >= 1 && cols <= 64 }

// shapes are sides of matrices that may be.
var shapes = [][2]int{{1, 1}, {1, 2}, {2, 1}, {2, 2}, {2, 3}, {3, 2}, {1, 64}, {64, 1}, {63, 64}, {64, 63}, {64, 64}}

func holdCheck(t *testing.T, a api.Mat, want api.Errno) {
	t.Helper()
	if got := shape.Check(a); got != want {
		t.Errorf("P14.1: Check of %d by %d with %d words = %d, want %d", a.Rows, a.Cols, len(a.Data), got, want)
	}
}

func holdFinite(t *testing.T, a api.Mat, want api.Errno) {
	t.Helper()
	if got := shape.Finite(a); got != want {
		t.Errorf("P14.1: Finite of %d by %d, %#x = %d, want %d", a.Rows, a.Cols, a.Data, got, want)
	}
}

// P14.1: sides that may be, with as many words, one fewer, one more, none.
func TestCheckWords(t *testing.T) {
	for _, s := range shapes {
		n := s[0] * s[1]
		holdCheck(t, mat(s[0], s[1], make([]uint64, n)...), api.OK)
		holdCheck(t, mat(s[0], s[1], make([]uint64, n-1)...), api.ErrShape)
		holdCheck(t, mat(s[0], s[1], make([]uint64, n+1)...), api.ErrShape)
		holdCheck(t, api.Mat{Rows: s[0], Cols: s[1]}, api.ErrShape)
		holdCheck(t, api.Mat{Rows: s[0], Cols: s[1], Data: []uint64{}}, api.ErrShape)
		holdCheck(t, api.Mat{Rows: s[0], Cols: s[1], Data: make([]uint64, 0, n)}, api.ErrShape)
		// Words that are no numbers are none of Check's matters.
		holdCheck(t, mat(s[0], s[1], slices.Repeat([]uint64{api.NaN}, n)...), api.OK)
	}
}

// P14.1: all sides, in both directions.
func TestCheckSides(t *testing.T) {
	for _, rows := range sides() {
		for _, cols := range sides() {
			want := api.ErrShape
			n := 0
			if may(rows, cols) {
				want, n = api.OK, rows*cols
			} else if rows >= 0 && cols >= 0 && rows <= 128 && cols <= 128 {
				n = rows * cols
			}
			holdCheck(t, mat(rows, cols, make([]uint64, n)...), want)
			if want != api.OK {
				holdCheck(t, mat(rows, cols, 0), want)
			}
		}
	}
	// The product of these sides is as many words as there are.
	holdCheck(t, mat(-1, -1, 0), api.ErrShape)
	holdCheck(t, mat(-2, -3, make([]uint64, 6)...), api.ErrShape)
	holdCheck(t, mat(65, 1, make([]uint64, 65)...), api.ErrShape)
	holdCheck(t, mat(1, 65, make([]uint64, 65)...), api.ErrShape)
	holdCheck(t, mat(128, 32, make([]uint64, 4096)...), api.ErrShape)
	holdCheck(t, mat(1<<32, 1<<32), api.ErrShape)
	holdCheck(t, api.Mat{}, api.ErrShape)
}

// P14.1: infinite ones and NaNs at each place, the first and the last among them.
func TestFinite(t *testing.T) {
	lost := append([]uint64{inf, sign | inf}, nans...)
	for _, s := range shapes {
		n := s[0] * s[1]
		for _, word := range []uint64{0, sign, 1, sign | 1, one, great, sign | great, 0x000fffffffffffff, 0x0010000000000000} {
			holdFinite(t, mat(s[0], s[1], slices.Repeat([]uint64{word}, n)...), api.OK)
		}
		for _, word := range lost {
			for _, place := range []int{0, n / 2, n - 1} {
				data := slices.Repeat([]uint64{great}, n)
				data[place] = word
				holdFinite(t, mat(s[0], s[1], data...), api.ErrInput)
			}
		}
		holdFinite(t, mat(s[0], s[1], slices.Repeat([]uint64{api.NaN}, n+1)...), api.ErrShape)
		holdFinite(t, mat(s[0], s[1], slices.Repeat([]uint64{inf}, n-1)...), api.ErrShape)
		holdFinite(t, mat(s[0], s[1]), api.ErrShape)
	}
	holdFinite(t, mat(65, 1, slices.Repeat([]uint64{inf}, 65)...), api.ErrShape)
	holdFinite(t, mat(0, 0), api.ErrShape)
	holdFinite(t, mat(-1, -1, api.NaN), api.ErrShape)
}

func TestNew(t *testing.T) {
	for _, rows := range sides() {
		for _, cols := range sides() {
			want, wantErr := api.Mat{}, api.ErrShape
			if may(rows, cols) {
				want, wantErr = mat(rows, cols, make([]uint64, rows*cols)...), api.OK
			}
			got, err := shape.New(rows, cols)
			expect(t, fmt.Sprintf("P14.1: New(%d, %d)", rows, cols), got, err, want, wantErr)
		}
	}
}

func TestIdentity(t *testing.T) {
	one1, err := shape.Identity(1)
	expect(t, "P14.1: Identity(1)", one1, err, mat(1, 1, one), api.OK) // the chapter's example
	for _, n := range sides() {
		want, wantErr := api.Mat{}, api.ErrShape
		if may(n, n) {
			want, wantErr = mat(n, n, make([]uint64, n*n)...), api.OK
			for i := range n {
				want.Data[i*n+i] = one
			}
		}
		got, err := shape.Identity(n)
		expect(t, fmt.Sprintf("P14.1: Identity(%d)", n), got, err, want, wantErr)
	}
}

func TestOf(t *testing.T) {
	s := source(1)
	for _, side := range shapes {
		rows, cols := side[0], side[1]
		l := s.words(rows*cols + 1)
		what := fmt.Sprintf("P14.1: Of(%d, %d)", rows, cols)
		got, err := shape.Of(rows, cols, l[1:]...)
		expect(t, what, got, err, mat(rows, cols, l[1:]...), api.OK)
		got, err = shape.Of(rows, cols, l...)
		expect(t, what+" with a word too many", got, err, api.Mat{}, api.ErrShape)
		got, err = shape.Of(rows, cols, l[2:]...)
		expect(t, what+" with a word too few", got, err, api.Mat{}, api.ErrShape)
		got, err = shape.Of(rows, cols)
		expect(t, what+" with no words", got, err, api.Mat{}, api.ErrShape)
	}
	for _, rows := range sides() {
		for _, cols := range sides() {
			if may(rows, cols) {
				continue
			}
			for _, count := range []int{0, 1, 64, 65} {
				got, err := shape.Of(rows, cols, make([]uint64, count)...)
				expect(t, fmt.Sprintf("P14.1: Of(%d, %d) with %d words", rows, cols, count), got, err, api.Mat{}, api.ErrShape)
			}
		}
	}
	got, err := shape.Of(-2, -2, 1, 2, 3, 4)
	expect(t, "P14.1: Of(-2, -2)", got, err, api.Mat{}, api.ErrShape)
	got, err = shape.Of(65, 1, make([]uint64, 65)...)
	expect(t, "P14.1: Of(65, 1)", got, err, api.Mat{}, api.ErrShape)
}

func holdSame(t *testing.T, a, b api.Mat, want bool) {
	t.Helper()
	if shape.Same(a, b) != want || shape.Same(b, a) != want {
		t.Errorf("P14.1: Same(%d by %d %#x, %d by %d %#x) is not %v", a.Rows, a.Cols, a.Data, b.Rows, b.Cols, b.Data, want)
	}
}

func TestSame(t *testing.T) {
	s := source(2)
	for _, side := range shapes {
		n := side[0] * side[1]
		a := mat(side[0], side[1], s.words(n)...)
		holdSame(t, a, mat(side[0], side[1], slices.Clone(a.Data)...), true)
		for _, place := range []int{0, n / 2, n - 1} {
			for _, bit := range []uint64{1, 1 << 30, 1 << 52, sign} {
				b := mat(side[0], side[1], slices.Clone(a.Data)...)
				b.Data[place] ^= bit
				holdSame(t, a, b, false)
			}
		}
	}
	// Unlike shapes with the same words.
	holdSame(t, mat(2, 3, 1, 2, 3, 4, 5, 6), mat(3, 2, 1, 2, 3, 4, 5, 6), false)
	holdSame(t, mat(1, 4, 1, 2, 3, 4), mat(2, 2, 1, 2, 3, 4), false)
	holdSame(t, mat(1, 4, 1, 2, 3, 4), mat(4, 1, 1, 2, 3, 4), false)
	holdSame(t, mat(1, 2, 1, 2), mat(1, 2, 1, 2, 3), false)
	holdSame(t, mat(1, 2, 1, 2), mat(1, 3, 1, 2), false)
	holdSame(t, mat(1, 2, 1, 2), mat(2, 2, 1, 2), false)
	// Bits, not numbers.
	holdSame(t, mat(1, 1, 0), mat(1, 1, sign), false)
	for i, nan := range nans {
		for j, other := range nans {
			holdSame(t, mat(1, 1, nan), mat(1, 1, other), i == j)
		}
	}
	// What may not be is alike with itself, too; nil and empty words are one.
	holdSame(t, mat(-1, 65, 1, 2), mat(-1, 65, 1, 2), true)
	holdSame(t, api.Mat{}, api.Mat{Data: []uint64{}}, true)
	holdSame(t, mat(0, 3), mat(3, 0), false)
}

func TestTranspose(t *testing.T) {
	s := source(3)
	for _, side := range shapes {
		rows, cols := side[0], side[1]
		a := mat(rows, cols, s.words(rows*cols)...)
		want := mat(cols, rows, make([]uint64, rows*cols)...)
		for i := range rows {
			for j := range cols {
				want.Data[j*rows+i] = a.Data[i*cols+j]
			}
		}
		got, err := shape.Transpose(a)
		what := fmt.Sprintf("Transpose of %d by %d", rows, cols)
		expect(t, "P14.1: "+what, got, err, want, api.OK)
		back, err := shape.Transpose(got)
		expect(t, "P14.2: "+what+", twice", back, err, a, api.OK)
	}
	got, err := shape.Transpose(mat(2, 3, 1, 2, 3, 4, 5, 6))
	expect(t, "P14.1: Transpose of 2 by 3", got, err, mat(3, 2, 1, 4, 2, 5, 3, 6), api.OK)
	for _, a := range broken() {
		got, err := shape.Transpose(a)
		expect(t, fmt.Sprintf("P14.1: Transpose of %d by %d with %d words", a.Rows, a.Cols, len(a.Data)), got, err, api.Mat{}, api.ErrShape)
	}
}

// broken are matrices that may not be.
func broken() []api.Mat {
	out := []api.Mat{{}, {Data: []uint64{}}, {Data: []uint64{one}}, mat(1, 1), mat(1, 1, 1, 2), mat(2, 2, 1, 2, 3), mat(2, 2, 1, 2, 3, 4, 5), mat(-1, -1, 1), mat(0, 1), mat(1, 0), mat(65, 1, make([]uint64, 65)...), mat(1, 65, make([]uint64, 65)...)}
	for _, n := range far {
		out = append(out, mat(n, 1, 1), mat(1, n, 1), mat(n, n, 1), mat(n, n))
	}
	return out
}

func holdAt(t *testing.T, a api.Mat, i, j int, want uint64, wantErr api.Errno) {
	t.Helper()
	if got, err := shape.At(a, i, j); got != want || err != wantErr {
		t.Errorf("P14.1: At of %d by %d at %d, %d = %#x, error %d; want %#x, error %d", a.Rows, a.Cols, i, j, got, err, want, wantErr)
	}
}

func TestAt(t *testing.T) {
	s := source(4)
	for _, side := range shapes {
		rows, cols := side[0], side[1]
		a := mat(rows, cols, s.words(rows*cols)...)
		for i := range rows {
			for j := range cols {
				holdAt(t, a, i, j, a.Data[i*cols+j], api.OK)
			}
		}
		for _, i := range append([]int{rows, rows + 1, rows * cols}, far...) {
			holdAt(t, a, i, 0, 0, api.ErrRange)
			holdAt(t, a, i, cols-1, 0, api.ErrRange)
		}
		for _, j := range append([]int{cols, cols + 1, rows*cols + 1}, far...) {
			holdAt(t, a, 0, j, 0, api.ErrRange)
			holdAt(t, a, rows-1, j, 0, api.ErrRange)
		}
		holdAt(t, a, -1, cols, 0, api.ErrRange)
		holdAt(t, a, 1, -1, 0, api.ErrRange)
	}
	// Check's error goes ahead of the place's.
	for _, a := range broken() {
		holdAt(t, a, 0, 0, 0, api.ErrShape)
		holdAt(t, a, -1, -1, 0, api.ErrShape)
		holdAt(t, a, 64, 64, 0, api.ErrShape)
	}
}

// P14.3: what is handed in isn't changed, and shares nothing with what is told.
func TestMemory(t *testing.T) {
	s := source(5)
	for _, side := range shapes {
		rows, cols := side[0], side[1]
		holdMemory(t, "Of", func(in [][]uint64) []uint64 {
			a, _ := shape.Of(rows, cols, in[0]...)
			return a.Data
		}, s.words(rows*cols))
		holdMemory(t, "Transpose", func(in [][]uint64) []uint64 {
			a, _ := shape.Transpose(mat(rows, cols, in[0]...))
			return a.Data
		}, s.words(rows*cols))
		holdMemory(t, "New", func([][]uint64) []uint64 {
			a, _ := shape.New(rows, cols)
			return a.Data
		})
	}
	holdMemory(t, "Identity", func([][]uint64) []uint64 {
		a, _ := shape.Identity(3)
		return a.Data
	})
	a := mat(2, 2, s.words(4)...)
	was := slices.Clone(a.Data)
	shape.Check(a)
	shape.Finite(a)
	shape.Same(a, a)
	shape.At(a, 1, 1)
	if !slices.Equal(a.Data, was) {
		t.Error("P14.3: a call that only looks changes its matrix")
	}
}
