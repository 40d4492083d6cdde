package mat_test

import (
	"fmt"
	"math"
	"slices"
	"testing"

	"vernier/api"
	lin "vernier/mat"
)

// shapes are sides of matrices that may be.
var shapes = [][2]int{{1, 1}, {1, 2}, {2, 1}, {2, 2}, {2, 3}, {3, 2}, {5, 4}, {1, 64}, {64, 1}, {64, 64}}

// list is numbers, just as they come.
func list(l ...uint64) []uint64 { return l }

// pairs are Add and Sub, and as the machine does it.
var pairs = []struct {
	name string
	of   func(a, b api.Mat) (api.Mat, api.Errno)
	word func(a, b uint64) uint64
}{{"Add", lin.Add, plus}, {"Sub", lin.Sub, less}}

func TestAddAndSub(t *testing.T) {
	s := source(1)
	for _, c := range pairs {
		for _, side := range shapes {
			for range 5 {
				a, b := s.mat(side[0], side[1]), s.mat(side[0], side[1])
				want := mat(side[0], side[1])
				for k := range a.Data {
					want.Data = append(want.Data, c.word(a.Data[k], b.Data[k]))
				}
				got, err := c.of(a, b)
				expect(t, "P20.1: "+c.name, got, err, want, api.OK)
			}
		}
	}
	got, err := lin.Add(mat(1, 4, 0, 0, sign, sign), mat(1, 4, 0, sign, 0, sign))
	expect(t, "P20.1: Add of zeros", got, err, mat(1, 4, 0, 0, 0, sign), api.OK)
	got, err = lin.Sub(mat(1, 4, 0, 0, sign, sign), mat(1, 4, 0, sign, 0, sign))
	expect(t, "P20.1: Sub of zeros", got, err, mat(1, 4, 0, 0, sign, 0), api.OK)
	got, err = lin.Add(mat(1, 2, one, one+1), mat(1, 2, power(-53), power(-53)))
	expect(t, "P20.1: Add of halves", got, err, mat(1, 2, one, one+2), api.OK)
	a := mat(2, 2, one, sign|two, great, sign|1)
	got, err = lin.Sub(a, a) // the chapter's example
	expect(t, "P20.1: Sub of a matrix and itself", got, err, mat(2, 2, 0, 0, 0, 0), api.OK)
}

// P20.1: Finite's error, the first one's first; then unlike shapes; then what
// is not finite.
func TestAddAndSubErrors(t *testing.T) {
	for _, c := range pairs {
		for _, x := range faults() {
			for _, good := range []api.Mat{mat(1, 1, one), filled(2, 2, great), filled(64, 64, one)} {
				got, err := c.of(x.a, good)
				expect(t, "P20.1: "+c.name, got, err, api.Mat{}, x.err)
				got, err = c.of(good, x.a)
				expect(t, "P20.1: "+c.name, got, err, api.Mat{}, x.err)
			}
			for _, y := range faults() {
				got, err := c.of(x.a, y.a)
				expect(t, "P20.1: "+c.name, got, err, api.Mat{}, x.err)
			}
		}
		for i, side := range shapes {
			for j, other := range shapes {
				if i != j {
					got, err := c.of(filled(side[0], side[1], great), filled(other[0], other[1], sign|great))
					expect(t, "P20.1: "+c.name+" of unlike shapes", got, err, api.Mat{}, api.ErrShape)
				}
			}
		}
		got, err := c.of(filled(2, 6, one), filled(6, 2, one))
		expect(t, "P20.1: "+c.name+" of unlike shapes", got, err, api.Mat{}, api.ErrShape)
	}
	for _, side := range shapes {
		n := side[0] * side[1]
		for _, place := range []int{0, n / 2, n - 1} {
			a, b := with(filled(side[0], side[1], one), place, great), with(filled(side[0], side[1], one), place, great)
			got, err := lin.Add(a, b)
			expect(t, "P20.1: Add", got, err, api.Mat{}, api.ErrOverflow)
			got, err = lin.Sub(a, b)
			expect(t, "P20.1: Sub", got, err, filled(side[0], side[1], 0), api.OK)
			b.Data[place] |= sign
			got, err = lin.Sub(a, b)
			expect(t, "P20.1: Sub", got, err, api.Mat{}, api.ErrOverflow)
		}
	}
}

func TestScale(t *testing.T) {
	s := source(2)
	for _, side := range shapes {
		for _, x := range []uint64{s.near(20), s.near(20), 0, sign, one, sign | one, power(-1074), power(-1)} {
			a := s.mat(side[0], side[1])
			want := mat(side[0], side[1])
			for _, word := range a.Data {
				want.Data = append(want.Data, times(x, word))
			}
			got, err := lin.Scale(x, a)
			expect(t, "P20.1: Scale", got, err, want, api.OK)
		}
		n := side[0] * side[1]
		for _, place := range []int{0, n / 2, n - 1} {
			got, err := lin.Scale(two, with(filled(side[0], side[1], one), place, sign|great))
			expect(t, "P20.1: Scale", got, err, api.Mat{}, api.ErrOverflow)
		}
	}
	got, err := lin.Scale(sign|one, mat(1, 3, 0, sign, two))
	expect(t, "P20.1: Scale of zeros", got, err, mat(1, 3, sign, 0, sign|two), api.OK)
	got, err = lin.Scale(power(-1), mat(1, 3, 1, 3, sign|5))
	expect(t, "P20.1: Scale to halves", got, err, mat(1, 3, 0, 2, sign|2), api.OK)
	for _, x := range append(list(one), lost...) {
		for _, f := range faults() { // they go ahead of x
			got, err := lin.Scale(x, f.a)
			expect(t, "P20.1: Scale", got, err, api.Mat{}, f.err)
		}
		if x != one {
			got, err := lin.Scale(x, mat(1, 2, 0, one))
			expect(t, "P20.1: Scale by what is not finite", got, err, api.Mat{}, api.ErrInput)
			got, err = lin.Scale(x, filled(64, 64, 0))
			expect(t, "P20.1: Scale by what is not finite", got, err, api.Mat{}, api.ErrInput)
		}
	}
}

func holdGemv(t *testing.T, a api.Mat, x, want []uint64, wantErr api.Errno) {
	t.Helper()
	if got, err := lin.Gemv(a, x); !slices.Equal(got, want) || err != wantErr {
		t.Errorf("P20.1: Gemv(%v, %#x) = %#x, error %d; want %#x, error %d", a, x, got, err, want, wantErr)
	}
}

func TestGemv(t *testing.T) {
	holdGemv(t, mat(2, 2, of(1), of(2), of(3), of(4)), list(of(5), of(6)), list(of(17), of(39)), api.OK)
	holdGemv(t, mat(2, 1, one, sign|one), list(sign), list(0, 0), api.OK) // from +0 on
	holdGemv(t, mat(3, 1, 1, 3, sign|5), list(power(-1)), list(0, 2, sign|2), api.OK)
	holdGemv(t, mat(1, 3, one, power(-53), power(-53)), list(one, one, one), list(one), api.OK)
	holdGemv(t, mat(1, 3, power(-53), power(-53), one), list(one, one, one), list(one+1), api.OK)
	holdGemv(t, mat(1, 2, sign|(one+2), one+1), list(one, one+1), list(0), api.OK) // the product is rounded
	s := source(3)
	for _, side := range shapes {
		for range 5 {
			a, x := s.mat(side[0], side[1]), s.row(side[1])
			want := []uint64{}
			for i := range side[0] {
				sum := uint64(0)
				for j := range x {
					sum = plus(sum, times(a.Data[i*side[1]+j], x[j]))
				}
				want = append(want, sum)
			}
			holdGemv(t, a, x, want, api.OK)
		}
		for _, i := range []int{0, side[0] / 2, side[0] - 1} {
			a := with(filled(side[0], side[1], 0), i*side[1], great)
			holdGemv(t, a, slices.Repeat(list(two), side[1]), nil, api.ErrOverflow)
		}
	}
}

// fault2 is a row that may not be, and vec.Check's error of it.
type fault2 struct {
	row []uint64
	err api.Errno
}

func rows() []fault2 {
	out := []fault2{{slices.Repeat(list(one), 65), api.ErrShape}, {slices.Repeat(list(inf), 65), api.ErrShape}}
	for _, word := range lost {
		out = append(out, fault2{list(word), api.ErrInput}, fault2{list(one, word), api.ErrInput}, fault2{append(slices.Repeat(list(one), 63), word), api.ErrInput})
	}
	return out
}

func TestGemvErrors(t *testing.T) {
	for _, f := range faults() {
		for _, x := range append(rows(), fault2{row: list(one)}, fault2{row: nil}) {
			holdGemv(t, f.a, x.row, nil, f.err)
		}
	}
	for _, x := range rows() {
		for _, a := range []api.Mat{filled(1, 1, one), filled(2, 2, great), filled(3, 64, one), filled(64, 64, one)} {
			holdGemv(t, a, x.row, nil, x.err)
		}
	}
	for _, side := range shapes {
		a := filled(side[0], side[1], great)
		for _, n := range []int{0, 1, 2, side[1] - 1, side[1] + 1, 64} {
			if n != side[1] && n <= 64 {
				holdGemv(t, a, slices.Repeat(list(great), n), nil, api.ErrShape)
			}
		}
	}
}

func holdGer(t *testing.T, a api.Mat, x, y []uint64, want api.Mat, wantErr api.Errno) {
	t.Helper()
	got, err := lin.Ger(a, x, y)
	expect(t, fmt.Sprintf("P20.1: Ger of %d by %d, %#x, %#x", a.Rows, a.Cols, x, y), got, err, want, wantErr)
}

func TestGer(t *testing.T) {
	holdGer(t, mat(2, 2, of(1), of(2), of(3), of(4)), list(of(1), of(10)), list(of(5), of(6)), mat(2, 2, of(6), of(8), of(53), of(64)), api.OK)
	holdGer(t, mat(1, 4, 0, sign, 0, sign), list(sign|one), list(0, 0, sign, sign), mat(1, 4, 0, sign, 0, 0), api.OK)
	holdGer(t, mat(1, 1, sign|(one+2)), list(one+1), list(one+1), mat(1, 1, 0), api.OK) // the product is rounded
	holdGer(t, mat(1, 3, 0, 0, 0), list(power(-1)), list(1, 3, sign|5), mat(1, 3, 0, 2, sign|2), api.OK)
	s := source(4)
	for _, side := range shapes {
		for range 5 {
			a, x, y := s.mat(side[0], side[1]), s.row(side[0]), s.row(side[1])
			want := mat(side[0], side[1])
			for i := range side[0] {
				for j := range side[1] {
					want.Data = append(want.Data, plus(a.Data[i*side[1]+j], times(x[i], y[j])))
				}
			}
			holdGer(t, a, x, y, want, api.OK)
		}
		n := side[0] * side[1]
		for _, place := range []int{0, n / 2, n - 1} {
			a := with(filled(side[0], side[1], one), place, great)
			x, y := slices.Repeat(list(one), side[0]), slices.Repeat(list(one), side[1])
			holdGer(t, a, x, y, with(filled(side[0], side[1], two), place, great), api.OK)
			x[place/side[1]] = great
			holdGer(t, a, x, y, api.Mat{}, api.ErrOverflow)
			y[place%side[1]], a.Data[place] = two, sign|great
			holdGer(t, a, x, y, api.Mat{}, api.ErrOverflow) // in between only
		}
	}
}

// P20.1: in the order of the errors: a, x, y, their lengths.
func TestGerErrors(t *testing.T) {
	for _, f := range faults() {
		for _, x := range append(rows(), fault2{row: list(one)}) {
			holdGer(t, f.a, x.row, list(one), api.Mat{}, f.err)
			holdGer(t, f.a, list(one), x.row, api.Mat{}, f.err)
		}
	}
	for _, a := range []api.Mat{filled(1, 1, one), filled(2, 2, great), filled(64, 64, great)} {
		for _, x := range rows() {
			for _, good := range [][]uint64{nil, list(one), list(one, one), slices.Repeat(list(great), 64)} {
				holdGer(t, a, x.row, good, api.Mat{}, x.err)
				holdGer(t, a, good, x.row, api.Mat{}, x.err)
			}
			for _, y := range rows() {
				holdGer(t, a, x.row, y.row, api.Mat{}, x.err)
			}
		}
	}
	for _, side := range shapes {
		a := filled(side[0], side[1], great)
		for _, n := range []int{0, 1, 2, 3, 63, 64} {
			for _, m := range []int{0, 1, 2, 3, 63, 64} {
				if n != side[0] || m != side[1] {
					holdGer(t, a, slices.Repeat(list(great), n), slices.Repeat(list(one), m), api.Mat{}, api.ErrShape)
				}
			}
		}
	}
}

// numbered is a matrix of any words, no two alike, some of them no numbers.
func numbered(rows, cols int) api.Mat {
	out := mat(rows, cols)
	for k := range rows * cols {
		out.Data = append(out.Data, uint64(k)|[]uint64{0, inf, sign, sign | inf, one}[k%5])
	}
	return out
}

func holdCut(t *testing.T, a api.Mat, i, j, rows, cols int, wantErr api.Errno) {
	t.Helper()
	want := api.Mat{}
	if wantErr == api.OK {
		want = mat(rows, cols)
		for k := range rows {
			for l := range cols {
				want.Data = append(want.Data, a.Data[(i+k)*a.Cols+j+l])
			}
		}
	}
	got, err := lin.Cut(a, i, j, rows, cols)
	expect(t, fmt.Sprintf("P20.1: Cut of %d by %d at %d, %d, %d by %d", a.Rows, a.Cols, i, j, rows, cols), got, err, want, wantErr)
}

func TestCut(t *testing.T) {
	got, err := lin.Cut(mat(2, 3, 1, 2, 3, 4, 5, 6), 0, 1, 2, 2)
	expect(t, "P20.1: Cut", got, err, mat(2, 2, 2, 3, 5, 6), api.OK)
	for _, side := range shapes {
		a := numbered(side[0], side[1])
		for _, i := range []int{-1, 0, 1, side[0] / 2, side[0] - 1, side[0]} {
			for _, j := range []int{-1, 0, 1, side[1] / 2, side[1] - 1, side[1]} {
				for _, rows := range []int{-1, 0, 1, side[0] - i, side[0] - i + 1} {
					for _, cols := range []int{-1, 0, 1, side[1] - j, side[1] - j + 1} {
						want := api.OK
						if i < 0 || j < 0 || rows < 1 || cols < 1 || i+rows > side[0] || j+cols > side[1] {
							want = api.ErrRange
						}
						holdCut(t, a, i, j, rows, cols, want)
					}
				}
			}
		}
	}
}

// P20.1: ints far off; matrices that may not be go ahead of them.
func TestCutBeyond(t *testing.T) {
	a := numbered(3, 4)
	for _, n := range far {
		holdCut(t, a, n, 0, 1, 1, api.ErrRange)
		holdCut(t, a, 0, n, 1, 1, api.ErrRange)
		holdCut(t, a, 0, 0, n, 1, api.ErrRange)
		holdCut(t, a, 0, 0, 1, n, api.ErrRange)
		holdCut(t, a, 1, 1, n, n, api.ErrRange)
		holdCut(t, a, n, n, n, n, api.ErrRange)
	}
	holdCut(t, a, math.MaxInt, 0, math.MinInt, 1, api.ErrRange)
	holdCut(t, a, -1, 0, 4, 1, api.ErrRange)
	for _, bad := range broken() {
		for _, n := range []int{-1, 0, 1, 65} {
			holdCut(t, bad, 0, 0, n, 1, api.ErrShape)
			holdCut(t, bad, n, n, 1, n, api.ErrShape)
		}
	}
}

func holdPaste(t *testing.T, a, b api.Mat, i, j int, wantErr api.Errno) {
	t.Helper()
	want := api.Mat{}
	if wantErr == api.OK {
		want = mat(a.Rows, a.Cols, slices.Clone(a.Data)...)
		for k := range b.Rows {
			for l := range b.Cols {
				want.Data[(i+k)*a.Cols+j+l] = b.Data[k*b.Cols+l]
			}
		}
	}
	got, err := lin.Paste(a, b, i, j)
	expect(t, fmt.Sprintf("P20.1: Paste of %d by %d into %d by %d at %d, %d", b.Rows, b.Cols, a.Rows, a.Cols, i, j), got, err, want, wantErr)
}

func TestPaste(t *testing.T) {
	got, err := lin.Paste(mat(2, 3, 1, 2, 3, 4, 5, 6), mat(2, 1, 8, 9), 0, 1)
	expect(t, "P20.1: Paste", got, err, mat(2, 3, 1, 8, 3, 4, 9, 6), api.OK)
	for _, side := range shapes {
		a := numbered(side[0], side[1])
		for _, rows := range []int{1, side[0] / 2, side[0], side[0] + 1} {
			for _, cols := range []int{1, side[1] / 2, side[1], side[1] + 1} {
				if rows < 1 || cols < 1 || rows > 64 || cols > 64 {
					continue
				}
				b := mat(rows, cols, slices.Repeat(list(sign|api.NaN), rows*cols)...)
				b.Data[0]++
				b.Data[rows*cols-1]--
				for _, i := range []int{-1, 0, side[0] - rows, side[0] - rows + 1, side[0]} {
					for _, j := range []int{-1, 0, side[1] - cols, side[1] - cols + 1, side[1]} {
						want := api.OK
						if i < 0 || j < 0 || i+rows > side[0] || j+cols > side[1] {
							want = api.ErrRange
						}
						holdPaste(t, a, b, i, j, want)
					}
				}
			}
		}
	}
}

func TestPasteBeyond(t *testing.T) {
	a, b := numbered(3, 4), numbered(2, 2)
	for _, n := range far {
		holdPaste(t, a, b, n, 0, api.ErrRange)
		holdPaste(t, a, b, 0, n, api.ErrRange)
		holdPaste(t, a, b, n, n, api.ErrRange)
	}
	holdPaste(t, b, a, 0, 0, api.ErrRange)
	for _, bad := range broken() {
		for _, n := range []int{0, -1, 65, math.MaxInt} {
			holdPaste(t, bad, b, n, 0, api.ErrShape)
			holdPaste(t, a, bad, n, 0, api.ErrShape)
			holdPaste(t, bad, bad, n, n, api.ErrShape)
		}
	}
}

// P20.2: what is cut, pasted there, changes nothing.
func TestCutAndPaste(t *testing.T) {
	for _, side := range [][2]int{{1, 1}, {2, 3}, {5, 4}, {1, 64}, {64, 1}, {9, 9}} {
		a := numbered(side[0], side[1])
		for i := range side[0] {
			for j := range side[1] {
				for rows := 1; i+rows <= side[0]; rows += 3 {
					for cols := 1; j+cols <= side[1]; cols += 3 {
						part, err := lin.Cut(a, i, j, rows, cols)
						if err != api.OK {
							t.Errorf("P20.2: Cut: error %d", err)
						}
						got, err := lin.Paste(a, part, i, j)
						expect(t, "P20.2: Paste of what was cut", got, err, a, api.OK)
					}
				}
			}
		}
	}
}

// P20.3: what is handed in isn't changed, and shares nothing with what is told.
func TestMemory(t *testing.T) {
	s := source(5)
	for _, side := range [][2]int{{1, 1}, {2, 3}, {64, 2}} {
		rows, cols := side[0], side[1]
		a, b, x, y := s.row(rows*cols), s.row(rows*cols), s.row(rows), s.row(cols)
		zeros := make([]uint64, rows*cols)
		data := func(m api.Mat, _ api.Errno) []uint64 { return m.Data }
		for _, other := range [][]uint64{b, zeros} {
			holdMemory(t, "Add", func(in [][]uint64) []uint64 {
				return data(lin.Add(mat(rows, cols, in[0]...), mat(rows, cols, in[1]...)))
			}, a, other)
			holdMemory(t, "Sub", func(in [][]uint64) []uint64 {
				return data(lin.Sub(mat(rows, cols, in[0]...), mat(rows, cols, in[1]...)))
			}, a, other)
		}
		for _, by := range []uint64{one, two} {
			holdMemory(t, "Scale", func(in [][]uint64) []uint64 {
				return data(lin.Scale(by, mat(rows, cols, in[0]...)))
			}, a)
		}
		holdMemory(t, "Gemv", func(in [][]uint64) []uint64 {
			out, _ := lin.Gemv(mat(rows, cols, in[0]...), in[1])
			return out
		}, a, y)
		for _, other := range [][]uint64{x, zeros[:rows]} {
			holdMemory(t, "Ger", func(in [][]uint64) []uint64 {
				return data(lin.Ger(mat(rows, cols, in[0]...), in[1], in[2]))
			}, a, other, y)
		}
		for _, part := range [][2]int{{rows, cols}, {1, 1}, {1, cols}, {rows, 1}} {
			holdMemory(t, "Cut", func(in [][]uint64) []uint64 {
				return data(lin.Cut(mat(rows, cols, in[0]...), 0, 0, part[0], part[1]))
			}, a)
			holdMemory(t, "Paste", func(in [][]uint64) []uint64 {
				return data(lin.Paste(mat(rows, cols, in[0]...), mat(part[0], part[1], in[1]...), 0, 0))
			}, a, b[:part[0]*part[1]])
		}
	}
}
