package tri_test

import (
	"fmt"
	"slices"
	"testing"

	"vernier/api"
	"vernier/tri"
)

// call is Lower or Upper, with what it is given.
type call struct {
	t     api.Mat
	upper bool
	unit  bool
	b     api.Mat
}

func (x call) hold(t *testing.T, want api.Mat, wantErr api.Errno) {
	t.Helper()
	name, of := "Lower", tri.Lower
	if x.upper {
		name, of = "Upper", tri.Upper
	}
	got, err := of(x.t, x.unit, x.b)
	expect(t, fmt.Sprintf("P22.1: %s of %d by %d, unit %v, %d by %d", name, x.t.Rows, x.t.Cols, x.unit, x.b.Rows, x.b.Cols), got, err, want, wantErr)
}

// each calls do for both triangles, unit and not.
func each(do func(upper, unit bool)) {
	for _, upper := range []bool{false, true} {
		for _, unit := range []bool{false, true} {
			do(upper, unit)
		}
	}
}

func TestSolve(t *testing.T) {
	l := mat(2, 2, of(2), of(9), of(3), of(4))
	call{l, false, false, mat(2, 1, of(4), of(14))}.hold(t, mat(2, 1, of(2), of(2)), api.OK)
	call{l, false, true, mat(2, 1, of(4), of(14))}.hold(t, mat(2, 1, of(4), of(2)), api.OK)
	call{l, true, false, mat(2, 1, of(20), of(8))}.hold(t, mat(2, 1, of(1), of(2)), api.OK)
	call{l, true, true, mat(2, 1, of(20), of(2))}.hold(t, mat(2, 1, of(2), of(2)), api.OK)
	call{mat(1, 1, of(4)), false, false, mat(1, 2, of(1), of(-6))}.hold(t, mat(1, 2, of(0.25), of(-1.5)), api.OK)
	call{mat(1, 1, of(4)), true, true, mat(1, 2, of(1), of(-6))}.hold(t, mat(1, 2, of(1), of(-6)), api.OK)
	s := source(1)
	for _, n := range []int{1, 2, 3, 4, 7, 64} {
		for _, cols := range []int{1, 2, 5, 64} {
			each(func(upper, unit bool) {
				for range 3 {
					x := call{s.triangle(n), upper, unit, s.mat(n, cols)}
					if n > 7 { // or the numbers get too great
						for k := range x.t.Data {
							if k%(n+1) != 0 {
								x.t.Data[k] = times(x.t.Data[k], power(-21))
							} else {
								x.t.Data[k] = s.near(1)&(1<<52-1) | one
							}
						}
					}
					x.hold(t, solved(x.t, upper, unit, x.b), api.OK)
				}
			})
		}
	}
}

// P22.1: the chapter's example: of Identity it is b, zeros of both signs, too.
func TestSolveIdentity(t *testing.T) {
	s := source(2)
	for _, n := range []int{1, 2, 3, 64} {
		each(func(upper, unit1 bool) {
			b := s.mat(n, 3)
			for k, word := range b.Data {
				if word == sign {
					b.Data[k] = 0
				}
			}
			call{unit(n), upper, unit1, b}.hold(t, b, api.OK)
		})
	}
	// What is taken from a zero, and what it is divided by.
	call{mat(1, 1, one), false, false, mat(1, 2, 0, sign)}.hold(t, mat(1, 2, 0, sign), api.OK)
	call{mat(1, 1, sign|two), true, false, mat(1, 2, 0, sign)}.hold(t, mat(1, 2, sign, 0), api.OK)
	call{mat(2, 2, one, 0, 0, one), false, true, mat(2, 2, sign|one, one, sign, sign)}.hold(t, mat(2, 2, sign|one, one, 0, sign), api.OK)
	call{mat(2, 2, one, 0, 0, one), true, true, mat(2, 2, sign, sign, sign|one, one)}.hold(t, mat(2, 2, 0, sign, sign|one, one), api.OK)
	call{mat(2, 2, one, 0, sign, one), false, true, mat(2, 2, sign|one, one, sign, sign)}.hold(t, mat(2, 2, sign|one, one, sign, 0), api.OK)
}

// P22.1: the order in which products are taken away, each rounded, seen in the
// last bit; and the quotient's.
func TestSolveOrder(t *testing.T) {
	half, u := power(-53), sign|power(-53)
	// From 1: -2^-53 twice, and then 1; in another order it would be another.
	low := mat(4, 4, one, 0, 0, 0, 0, one, 0, 0, 0, 0, one, 0, u, u, one, one)
	call{low, false, true, filled(4, 1, one)}.hold(t, mat(4, 1, one, one, one, 0), api.OK)
	low = mat(4, 4, one, 0, 0, 0, 0, one, 0, 0, 0, 0, one, 0, one, u, u, one)
	call{low, false, true, filled(4, 1, one)}.hold(t, mat(4, 1, one, one, one, power(-52)), api.OK)
	up := mat(4, 4, one, u, u, one, 0, one, 0, 0, 0, 0, one, 0, 0, 0, 0, one)
	call{up, true, true, filled(4, 1, one)}.hold(t, mat(4, 1, 0, one, one, one), api.OK)
	up = mat(4, 4, one, one, u, u, 0, one, 0, 0, 0, 0, one, 0, 0, 0, 0, one)
	call{up, true, true, filled(4, 1, one)}.hold(t, mat(4, 1, power(-52), one, one, one), api.OK)
	// The square of 1 and 2^-52 is rounded ahead.
	call{mat(2, 2, one, 0, one+1, one), false, true, mat(2, 1, one+1, one+2)}.hold(t, mat(2, 1, one+1, 0), api.OK)
	call{mat(2, 2, one, one+1, 0, one), true, true, mat(2, 1, one+2, one+1)}.hold(t, mat(2, 1, 0, one+1), api.OK)
	// To the nearest, of two as near the even one.
	call{mat(2, 2, one, 0, half, one), false, true, mat(2, 2, one, one, one+1, sign|(one+1))}.hold(t, mat(2, 2, one, one, one, sign|(one+2)), api.OK)
	call{mat(1, 1, two), false, false, mat(1, 3, 1, 3, sign|5)}.hold(t, mat(1, 3, 0, 2, sign|2), api.OK)
	call{mat(1, 1, two), true, false, mat(1, 3, 1, 3, sign|5)}.hold(t, mat(1, 3, 0, 2, sign|2), api.OK)
	call{mat(1, 1, of(3)), true, false, mat(1, 2, one, two)}.hold(t, mat(1, 2, of(1.0/3), of(2.0/3)), api.OK)
}

// P22.1: what is not 0 in the half that does not count, and on a unit's
// diagonal, is of no matter.
func TestSolveOtherHalf(t *testing.T) {
	s := source(3)
	for _, n := range []int{2, 3, 6} {
		each(func(upper, unit bool) {
			x := call{s.triangle(n), upper, unit, s.mat(n, 2)}
			want := solved(x.t, upper, unit, x.b)
			for _, word := range []uint64{0, sign, great, sign | great, 1} {
				for i := range n {
					for j := range n {
						if (i < j && !upper) || (i > j && upper) || (i == j && unit) {
							x.t.Data[i*n+j] = word
						}
					}
				}
				x.hold(t, want, api.OK)
			}
		})
	}
}

// P22.1: a 0 on the diagonal, of either sign, at any place.
func TestSolveZero(t *testing.T) {
	for _, n := range []int{1, 2, 3, 64} {
		for _, i := range []int{0, n / 2, n - 1} {
			for _, zero := range []uint64{0, sign} {
				for _, upper := range []bool{false, true} {
					d := with(unit(n), i*n+i, zero)
					b := filled(n, 2, one)
					call{d, upper, false, b}.hold(t, api.Mat{}, api.ErrZero)
					call{d, upper, true, b}.hold(t, b, api.OK)
					// It goes ahead of overflow, behind the sides.
					over := with(d, 0, power(-1000))
					if i == 0 {
						over = with(d, n*n-1, power(-1000))
					}
					over.Data[i*n+i] = zero
					call{over, upper, false, filled(n, 2, great)}.hold(t, api.Mat{}, api.ErrZero)
					call{d, upper, false, filled(n%64+1, 2, one)}.hold(t, api.Mat{}, api.ErrShape)
				}
			}
		}
	}
	// The least numbers are none.
	call{mat(1, 1, 1), false, false, mat(1, 1, 1)}.hold(t, mat(1, 1, one), api.OK)
	call{mat(1, 1, sign|1), true, false, mat(1, 1, 1)}.hold(t, mat(1, 1, sign|one), api.OK)
}

// P22.1: Finite's errors, of both halves, the triangle's first; then the sides.
func TestSolveErrors(t *testing.T) {
	each(func(upper, unit bool) {
		for _, f := range faults() {
			for _, good := range []api.Mat{mat(1, 1, 0), filled(2, 2, great), filled(64, 64, 0), filled(2, 3, one)} {
				call{f.a, upper, unit, good}.hold(t, api.Mat{}, f.err)
				call{good, upper, unit, f.a}.hold(t, api.Mat{}, f.err)
			}
			for _, g := range faults() {
				call{f.a, upper, unit, g.a}.hold(t, api.Mat{}, f.err)
			}
		}
		for _, word := range lost {
			for place := range 4 {
				call{with(filled(2, 2, one), place, word), upper, unit, filled(2, 1, one)}.hold(t, api.Mat{}, api.ErrInput)
			}
		}
		for _, c := range [][4]int{{1, 2, 1, 1}, {2, 1, 2, 1}, {2, 1, 1, 1}, {2, 3, 2, 2}, {3, 2, 3, 3}, {3, 2, 2, 2}, {2, 2, 1, 2}, {2, 2, 3, 2}, {1, 1, 2, 1}, {64, 64, 63, 64}, {63, 64, 63, 1}, {1, 1, 64, 1}} {
			call{filled(c[0], c[1], 0), upper, unit, filled(c[2], c[3], great)}.hold(t, api.Mat{}, api.ErrShape)
		}
	})
}

// P22.1: a number of x that is not finite, at one place.
func TestSolveOverflow(t *testing.T) {
	for _, n := range []int{1, 2, 3, 64} {
		for _, upper := range []bool{false, true} {
			for _, i := range []int{0, n / 2, n - 1} {
				for c := range 3 {
					b := with(filled(n, 3, one), 3*i+c, great)
					call{with(unit(n), i*n+i, power(-1)), upper, false, b}.hold(t, api.Mat{}, api.ErrOverflow)
					call{with(unit(n), i*n+i, power(-1)), upper, true, b}.hold(t, b, api.OK)
				}
			}
		}
	}
	// In between only: a product, a difference that another one would bring back.
	for _, unit := range []bool{false, true} {
		call{mat(2, 2, one, 0, two, one), false, unit, mat(2, 1, great, great)}.hold(t, api.Mat{}, api.ErrOverflow)
		call{mat(2, 2, one, two, 0, one), true, unit, mat(2, 1, great, great)}.hold(t, api.Mat{}, api.ErrOverflow)
		call{mat(3, 3, one, 0, 0, 0, one, 0, sign|one, one, one), false, unit, filled(3, 1, great)}.hold(t, api.Mat{}, api.ErrOverflow)
		call{mat(3, 3, one, 0, 0, 0, one, 0, one, sign|one, one), false, unit, filled(3, 1, great)}.hold(t, filled(3, 1, great), api.OK)
		call{mat(3, 3, one, sign|one, one, 0, one, 0, 0, 0, one), true, unit, filled(3, 1, great)}.hold(t, api.Mat{}, api.ErrOverflow)
		call{mat(3, 3, one, one, sign|one, 0, one, 0, 0, 0, one), true, unit, filled(3, 1, great)}.hold(t, filled(3, 1, great), api.OK)
	}
	call{mat(2, 2, one, 0, sign|one, two), false, false, filled(2, 1, great)}.hold(t, api.Mat{}, api.ErrOverflow)
	call{mat(2, 2, two, sign|one, 0, one), true, false, filled(2, 1, great)}.hold(t, api.Mat{}, api.ErrOverflow)
	call{mat(1, 1, 1), false, false, mat(1, 1, one)}.hold(t, api.Mat{}, api.ErrOverflow)
}

// sides are of matrices of any shape.
var sides = [][2]int{{1, 1}, {1, 2}, {2, 1}, {2, 2}, {2, 3}, {3, 2}, {4, 4}, {1, 64}, {64, 1}, {64, 63}, {64, 64}}

// numbered is a matrix of any words, none of them 0, some no numbers.
func numbered(rows, cols int) api.Mat {
	out := mat(rows, cols)
	for k := range rows * cols {
		out.Data = append(out.Data, uint64(k+1)|[]uint64{0, inf, sign, sign | inf}[k%4])
	}
	return out
}

// halved is the half of a that counts, else +0.
func halved(a api.Mat, upper, unit bool) api.Mat {
	out := filled(a.Rows, a.Cols, 0)
	for k, word := range a.Data {
		switch i, j := k/a.Cols, k%a.Cols; {
		case i == j && unit:
			out.Data[k] = one
		case inside(k, a.Cols, upper):
			out.Data[k] = word
		}
	}
	return out
}

func TestHalf(t *testing.T) {
	got, err := tri.Half(mat(2, 3, 1, 2, 3, 4, 5, 6), false, false)
	expect(t, "P22.1: Half of 2 by 3, lower", got, err, mat(2, 3, 1, 0, 0, 4, 5, 0), api.OK)
	got, err = tri.Half(mat(3, 2, 1, 2, 3, 4, 5, 6), true, true)
	expect(t, "P22.1: Half of 3 by 2, upper, unit", got, err, mat(3, 2, one, 2, 0, one, 0, 0), api.OK)
	each(func(upper, unit bool) {
		for _, side := range sides {
			for _, a := range []api.Mat{numbered(side[0], side[1]), filled(side[0], side[1], sign)} {
				got, err := tri.Half(a, upper, unit)
				expect(t, fmt.Sprintf("P22.1: Half of %d by %d, upper %v, unit %v", a.Rows, a.Cols, upper, unit), got, err, halved(a, upper, unit), api.OK)
			}
		}
		for _, a := range broken() {
			got, err := tri.Half(a, upper, unit)
			expect(t, fmt.Sprintf("P22.1: Half of %d by %d with %d words", a.Rows, a.Cols, len(a.Data)), got, err, api.Mat{}, api.ErrShape)
		}
	})
}

// inside tells whether the word k of a matrix is in that half.
func inside(k, cols int, upper bool) bool {
	if upper {
		return k/cols <= k%cols
	}
	return k/cols >= k%cols
}

func holdIs(t *testing.T, a api.Mat, upper, want bool) {
	t.Helper()
	if got := tri.Is(a, upper); got != want {
		t.Errorf("P22.1: Is(%d by %d %#x, %v) = %v", a.Rows, a.Cols, a.Data, upper, got)
	}
}

func TestIs(t *testing.T) {
	for _, upper := range []bool{false, true} {
		for _, side := range sides {
			rows, cols := side[0], side[1]
			for _, zero := range []uint64{0, sign} {
				// Words of any kind in the half, zeros else.
				a := numbered(rows, cols)
				holdIs(t, filled(rows, cols, zero), upper, true)
				for k := range a.Data {
					if !inside(k, cols, upper) {
						a.Data[k] = zero
					}
				}
				holdIs(t, a, upper, true)
				for _, k := range []int{0, 1, cols - 1, cols, rows*cols - cols, rows*cols - 2, rows*cols - 1} {
					if k < 0 || k >= rows*cols {
						continue
					}
					for _, word := range append([]uint64{1, sign | 1, one, great}, lost...) {
						holdIs(t, with(filled(rows, cols, zero), k, word), upper, inside(k, cols, upper))
						holdIs(t, with(a, k, word), upper, inside(k, cols, upper))
					}
				}
			}
		}
		for _, a := range broken() {
			holdIs(t, a, upper, false)
		}
		holdIs(t, mat(2, 2, 0, 0, 0), upper, false)
		holdIs(t, filled(65, 65, 0), upper, false)
	}
	holdIs(t, mat(2, 2, one, one, 0, one), true, true)
	holdIs(t, mat(2, 2, one, one, 0, one), false, false)
	holdIs(t, mat(2, 2, one, sign, one, one), false, true)
	holdIs(t, mat(2, 2, one, sign, one, one), true, false)
}

// P22.2: what is handed in isn't changed, and shares nothing with what is told.
func TestMemory(t *testing.T) {
	s := source(4)
	for _, n := range []int{1, 2, 4} {
		each(func(upper, unit1 bool) {
			for _, d := range []api.Mat{s.triangle(n), unit(n)} {
				for _, b := range []api.Mat{s.mat(n, 3), filled(n, 3, 0)} {
					holdMemory(t, "Lower, Upper", func(in [][]uint64) []uint64 {
						of := tri.Lower
						if upper {
							of = tri.Upper
						}
						got, _ := of(mat(n, n, in[0]...), unit1, mat(n, 3, in[1]...))
						return got.Data
					}, d.Data, b.Data)
				}
				holdMemory(t, "Half", func(in [][]uint64) []uint64 {
					got, _ := tri.Half(mat(n, n, in[0]...), upper, unit1)
					return got.Data
				}, d.Data)
			}
			a := numbered(n, n)
			tri.Is(a, upper)
			if !slices.Equal(a.Data, numbered(n, n).Data) {
				t.Error("P22.2: Is changes its matrix")
			}
		})
	}
}
