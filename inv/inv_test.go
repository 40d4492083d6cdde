package inv_test

import (
	"fmt"
	"math"
	"slices"
	"testing"

	"vernier/api"
	"vernier/inv"
)

// each calls do for both triangles, unit and not.
func each(do func(upper, unit bool)) {
	for _, upper := range []bool{false, true} {
		for _, unit := range []bool{false, true} {
			do(upper, unit)
		}
	}
}

// tell is what Lower or Upper tells.
func tell(a api.Mat, upper, unit bool, cutoff int) (api.Mat, api.Errno) {
	if upper {
		return inv.Upper(a, unit, cutoff)
	}
	return inv.Lower(a, unit, cutoff)
}

func hold(t *testing.T, a api.Mat, upper, unit bool, cutoff int, want api.Mat, wantErr api.Errno) {
	t.Helper()
	got, err := tell(a, upper, unit, cutoff)
	expect(t, fmt.Sprintf("P33.1: upper %v of %d by %d, unit %v, cutoff %d", upper, a.Rows, a.Cols, unit, cutoff), got, err, want, wantErr)
}

func holdFull(t *testing.T, a api.Mat, cutoff int, want api.Mat, wantErr api.Errno) {
	t.Helper()
	got, err := inv.Full(a, cutoff)
	what := fmt.Sprintf("P33.1: Full of %d by %d, cutoff %d", a.Rows, a.Cols, cutoff)
	if len(a.Data) < 20 {
		what += fmt.Sprintf(", %#x", a.Data)
	}
	expect(t, what, got, err, want, wantErr)
}

// full is the inverse of a as the chapter's words say it, or the error.
func full(a api.Mat, c int) (api.Mat, api.Errno) {
	f, swaps, zero := factored(a, c)
	switch {
	case !finite(f):
		return api.Mat{}, api.ErrOverflow
	case zero >= 0:
		return api.Mat{}, api.ErrZero
	}
	y := recursed(f, false, true, swapped(unit(a.Rows), swaps), c)
	x := recursed(f, true, false, y, c)
	if !finite(y) || !finite(x) {
		return api.Mat{}, api.ErrOverflow
	}
	return x, api.OK
}

func holdWords(t *testing.T, a api.Mat, cutoff int) api.Errno {
	t.Helper()
	want, err := full(a, cutoff)
	holdFull(t, a, cutoff, want, err)
	return err
}

func TestTriangles(t *testing.T) {
	hold(t, mat(2, 2, of(2), of(9), of(3), of(4)), false, false, 1, mat(2, 2, of(0.5), 0, of(-0.375), of(0.25)), api.OK)
	hold(t, mat(2, 2, of(2), of(9), of(3), of(4)), false, true, 1, mat(2, 2, of(1), 0, of(-3), of(1)), api.OK)
	hold(t, mat(2, 2, of(2), of(9), of(3), of(4)), true, false, 1, mat(2, 2, of(0.5), of(-1.125), 0, of(0.25)), api.OK)
	hold(t, mat(2, 2, of(2), of(9), of(3), of(4)), true, true, 1, mat(2, 2, of(1), of(-9), 0, of(1)), api.OK)
	s := source(1)
	for _, n := range []int{1, 2, 3, 5, 8, 64} {
		each(func(upper, unit1 bool) {
			for _, c := range []int{1, 2, 64, math.MaxInt} {
				a := s.triangle(n)
				want := recursed(a, upper, unit1, unit(n), c)
				hold(t, a, upper, unit1, c, want, api.OK)
				hold(t, unit(n), upper, unit1, c, unit(n), api.OK)
				// Numbers in the half that does not count.
				if n > 8 {
					continue
				}
				for _, word := range []uint64{0, sign, great, 1} {
					for k := range n * n {
						if i, j := k/n, k%n; (i < j && !upper) || (i > j && upper) || (i == j && unit1) {
							a.Data[k] = word
						}
					}
					hold(t, a, upper, unit1, c, want, api.OK)
				}
				// Powers of two on the diagonal alone: exact.
				d, e := filled(n, n, 0), filled(n, n, 0)
				for i := range n {
					k := s.below(2000) - 1000
					d.Data[i*n+i], e.Data[i*n+i] = power(k), power(-k)
				}
				if !unit1 {
					hold(t, d, upper, false, c, e, api.OK)
				}
			}
		})
	}
}

// P33.1: a 0 of either sign on the diagonal; not square; cutoffs; overflow.
func TestTrianglesErrors(t *testing.T) {
	each(func(upper, unit1 bool) {
		for _, f := range faults() {
			for _, c := range []int{1, 0} {
				hold(t, f.a, upper, unit1, c, api.Mat{}, f.err)
			}
		}
		for _, x := range [][2]int{{1, 2}, {2, 1}, {2, 3}, {64, 63}, {1, 64}} {
			for _, c := range []int{1, 0, -1} {
				hold(t, filled(x[0], x[1], 0), upper, unit1, c, api.Mat{}, api.ErrShape)
			}
		}
		for _, n := range []int{1, 2, 3, 64} {
			for _, at := range []int{0, n / 2, n - 1} {
				for _, zero := range []uint64{0, sign} {
					a := with(unit(n), at*n+at, zero)
					for _, c := range []int{1, 0, 64} {
						switch {
						case !unit1:
							hold(t, a, upper, unit1, c, api.Mat{}, api.ErrZero)
						case c == 0:
							hold(t, a, upper, unit1, c, api.Mat{}, api.ErrRange)
						default:
							hold(t, a, upper, unit1, c, unit(n), api.OK)
						}
					}
				}
				if !unit1 {
					hold(t, with(unit(n), at*n+at, 1), upper, unit1, 1, api.Mat{}, api.ErrOverflow)
				}
			}
			for _, c := range []int{0, -1, math.MinInt} {
				hold(t, unit(n), upper, unit1, c, api.Mat{}, api.ErrRange)
				hold(t, filled(n, n, 1), upper, unit1, c, api.Mat{}, api.ErrRange)
			}
		}
		for _, c := range []int{1, 2, 64} {
			hold(t, mat(3, 3, one, great, great, great, one, great, great, great, one), upper, unit1, c, api.Mat{}, api.ErrOverflow)
		}
	})
}

func TestFull(t *testing.T) {
	holdFull(t, mat(2, 2, of(4), of(2), of(2), of(2)), 1, mat(2, 2, of(0.5), of(-0.5), of(-0.5), of(1)), api.OK)
	holdFull(t, mat(2, 2, 0, of(2), of(4), 0), 1, mat(2, 2, 0, of(0.25), of(0.5), 0), api.OK)
	s := source(2)
	for _, n := range []int{1, 2, 3, 4, 5, 8} {
		for _, c := range []int{1, 2, 3, 64, math.MaxInt} {
			holdFull(t, unit(n), c, unit(n), api.OK)
			for range 10 {
				holdWords(t, s.firm(n, false), c)
				holdWords(t, s.firm(n, true), c)
				holdWords(t, s.mat(n, n), c)
				holdWords(t, s.smalls(n, n, 3), c)
			}
		}
	}
	for _, x := range [][2]int{{64, 16}, {64, 1}, {63, 64}} {
		for _, turned := range []bool{false, true} {
			if err := holdWords(t, s.firm(x[0], turned), x[1]); err != api.OK {
				t.Errorf("P33.1: the test's great matrix has error %d", err)
			}
		}
	}
	// Rows change places: of turns the inverse is the turn back.
	holdFull(t, mat(3, 3, 0, one, 0, 0, 0, one, one, 0, 0), 1, mat(3, 3, 0, 0, one, one, 0, 0, 0, one, 0), api.OK)
	holdFull(t, mat(4, 4, 0, 0, 0, one, one, 0, 0, 0, 0, one, 0, 0, 0, 0, two, 0), 1, mat(4, 4, 0, one, 0, 0, 0, 0, one, 0, 0, 0, 0, of(0.5), one, 0, 0, 0), api.OK)
}

// P33.1: the errors of Full, in their order.
func TestFullErrors(t *testing.T) {
	for _, f := range faults() {
		for _, c := range []int{1, 0} {
			holdFull(t, f.a, c, api.Mat{}, f.err)
		}
	}
	for _, x := range [][2]int{{1, 2}, {2, 1}, {2, 3}, {3, 2}, {64, 63}, {1, 64}} {
		for _, word := range []uint64{0, great} {
			for _, c := range []int{1, 0, -1} {
				holdFull(t, filled(x[0], x[1], word), c, api.Mat{}, api.ErrShape)
			}
		}
	}
	for _, c := range []int{0, -1, math.MinInt} {
		for _, n := range []int{1, 2, 64} {
			for _, word := range []uint64{0, great} {
				holdFull(t, filled(n, n, word), c, api.Mat{}, api.ErrRange)
			}
		}
	}
	// A pivot that is zero, at any column.
	for _, n := range []int{1, 2, 3, 5, 64} {
		for _, at := range []int{0, n / 2, n - 1} {
			for _, zero := range []uint64{0, sign} {
				holdFull(t, with(unit(n), at*n+at, zero), 1, api.Mat{}, api.ErrZero)
			}
		}
		if n > 1 {
			holdFull(t, filled(n, n, one), 64, api.Mat{}, api.ErrZero)
		}
	}
	for _, c := range []int{1, 2, 64} {
		// In the factors: ahead of a pivot that is zero; in the first solution, in
		// the last one.
		holdFull(t, mat(3, 3, 0, 0, 0, 0, one, great, 0, sign|one, great), c, api.Mat{}, api.ErrOverflow)
		holdFull(t, mat(2, 2, one, great, sign|one, great), c, api.Mat{}, api.ErrOverflow)
		holdFull(t, mat(1, 1, 1), c, api.Mat{}, api.ErrOverflow)
		holdFull(t, mat(2, 2, one, 0, 0, 1), c, api.Mat{}, api.ErrOverflow)
		holdFull(t, mat(2, 2, one, great, 0, power(-1)), c, api.Mat{}, api.ErrOverflow)
	}
	s := source(3)
	met := map[api.Errno]int{}
	for range 1000 {
		n := 1 + s.below(4)
		a := filled(n, n, 0)
		for k := range a.Data {
			a.Data[k] = []uint64{power(1000), power(1022), sign | power(1023), one, 0, sign, power(-1000), 1, two, sign | one}[s.below(10)]
		}
		met[holdWords(t, a, 1+s.below(2))]++
	}
	for _, err := range []api.Errno{api.OK, api.ErrZero, api.ErrOverflow} {
		if met[err] < 50 {
			t.Errorf("P33.1: the test meets error %d only %d times", err, met[err])
		}
	}
}

// P33.2: what is handed in isn't changed, and shares nothing with what is told.
func TestMemory(t *testing.T) {
	s := source(4)
	for _, n := range []int{1, 2, 5} {
		for _, a := range []api.Mat{s.triangle(n), unit(n), s.firm(n, true)} {
			each(func(upper, unit bool) {
				if !unit && slices.ContainsFunc(a.Data, func(x uint64) bool { return x&^sign == 0 }) {
					return
				}
				holdMemory(t, "Lower, Upper", func(in [][]uint64) []uint64 {
					got, _ := tell(mat(n, n, in[0]...), upper, unit, 1)
					return got.Data
				}, a.Data)
			})
		}
		for _, a := range []api.Mat{unit(n), s.firm(n, false), s.firm(n, true)} {
			holdMemory(t, "Full", func(in [][]uint64) []uint64 {
				got, _ := inv.Full(mat(n, n, in[0]...), 1)
				return got.Data
			}, a.Data)
		}
	}
}
