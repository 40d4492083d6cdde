package drive_test

import (
	"fmt"
	"math"
	"slices"
	"testing"

	"vernier/api"
	"vernier/cert"
	"vernier/drive"
)

// hold holds a solution and its error against those wanted.
func hold(t *testing.T, what string, got drive.Solution, err api.Errno, want drive.Solution, wantErr api.Errno) {
	t.Helper()
	what = "P37.1: " + what
	expect(t, what+": X", got.X, err, want.X, wantErr)
	expect(t, what+": Y", got.Y, err, want.Y, wantErr)
	expect(t, what+": F", got.F, err, want.F, wantErr)
	if !slices.Equal(got.Swaps, want.Swaps) {
		t.Errorf("%s: swaps %v, want %v", what, got.Swaps, want.Swaps)
	}
}

// call is one of the three that solve, and what it should tell.
type call struct {
	name string
	of   func(a, b api.Mat, cutoff int) (drive.Solution, api.Errno)
	want func(a, b api.Mat, cutoff int) (drive.Solution, api.Errno)
}

var calls = []call{{"Gesv", drive.Gesv, gesv}, {"Posv", drive.Posv, posv}, {"Gels", drive.Gels, gels}}

func (x call) hold(t *testing.T, a, b api.Mat, cutoff int) api.Errno {
	t.Helper()
	want, wantErr := x.want(a, b, cutoff)
	got, err := x.of(a, b, cutoff)
	what := fmt.Sprintf("%s of %d by %d and %d by %d, cutoff %d", x.name, a.Rows, a.Cols, b.Rows, b.Cols, cutoff)
	if len(a.Data) < 20 {
		what += fmt.Sprintf(", %#x, %#x", a.Data, b.Data)
	}
	hold(t, what, got, err, want, wantErr)
	return err
}

// none holds an error, with nothing beside it.
func (x call) none(t *testing.T, a, b api.Mat, cutoff int, want api.Errno) {
	t.Helper()
	got, err := x.of(a, b, cutoff)
	hold(t, fmt.Sprintf("%s of %d by %d and %d by %d, cutoff %d", x.name, a.Rows, a.Cols, b.Rows, b.Cols, cutoff), got, err, drive.Solution{}, want)
}

// gesv, posv and gels are the chapter's words, of what may be.
func gesv(a, b api.Mat, c int) (drive.Solution, api.Errno) {
	f, swaps, zero := factored(a, c)
	switch {
	case !finite(f):
		return drive.Solution{}, api.ErrOverflow
	case zero >= 0:
		return drive.Solution{}, api.ErrZero
	}
	y := recursed(f, false, true, swapped(b, swaps), c)
	x := recursed(f, true, false, y, c)
	if !finite(x, y) {
		return drive.Solution{}, api.ErrOverflow
	}
	return drive.Solution{X: x, Y: y, F: f, Swaps: swaps}, api.OK
}

func posv(a, b api.Mat, c int) (drive.Solution, api.Errno) {
	if !slices.Equal(a.Data, transposed(a).Data) {
		return drive.Solution{}, api.ErrState
	}
	l, place, ok := squared(a, c)
	switch {
	case !ok:
		return drive.Solution{}, api.ErrOverflow
	case place >= 0:
		return drive.Solution{}, api.ErrPivot
	}
	y := recursed(l, false, false, b, c)
	x := recursed(transposed(l), true, false, y, c)
	if !finite(x, y) {
		return drive.Solution{}, api.ErrOverflow
	}
	return drive.Solution{X: x, Y: y, F: l}, api.OK
}

func gels(a, b api.Mat, c int) (drive.Solution, api.Errno) {
	v, tt, r, err := mirrors(a, c)
	if err != api.OK {
		return drive.Solution{}, err
	}
	for i := range r.Rows {
		if r.Data[i*r.Cols+i]&^sign == 0 {
			return drive.Solution{}, api.ErrZero
		}
	}
	all := applied(v, transposed(tt), b, c)
	if !finite(all) {
		return drive.Solution{}, api.ErrOverflow
	}
	y := cut(all, 0, 0, a.Cols, b.Cols)
	x := recursed(r, true, false, y, c)
	if !finite(x) {
		return drive.Solution{}, api.ErrOverflow
	}
	return drive.Solution{X: x, Y: y, F: r}, api.OK
}

func TestByHand(t *testing.T) {
	// 2 1, 4 4 times 1, 2: 4, 12.
	a, b := mat(2, 2, of(2), of(1), of(4), of(4)), mat(2, 1, of(4), of(12))
	got, err := drive.Gesv(a, b, 1)
	hold(t, "Gesv", got, err, drive.Solution{X: mat(2, 1, of(1), of(2)), Y: mat(2, 1, of(12), of(-2)), F: mat(2, 2, of(4), of(4), of(0.5), of(-1)), Swaps: []int{1, 1}}, api.OK)
	// 4 6, 6 10 times 1, 2: 16, 26.
	got, err = drive.Posv(mat(2, 2, of(4), of(6), of(6), of(10)), mat(2, 1, of(16), of(26)), 1)
	hold(t, "Posv", got, err, drive.Solution{X: mat(2, 1, of(1), of(2)), Y: mat(2, 1, of(8), of(2)), F: mat(2, 2, of(2), 0, of(3), of(1))}, api.OK)
	// 3, 4 times 2: 6, 8.
	got, err = drive.Gels(mat(2, 1, of(3), of(4)), mat(2, 1, of(6), of(8)), 1)
	hold(t, "Gels", got, err, drive.Solution{X: mat(1, 1, of(2)), Y: mat(1, 1, of(-10)), F: mat(1, 1, of(-5))}, api.OK)
	got, err = drive.Gels(unit(3), mat(3, 1, of(1), of(2), of(3)), 1)
	hold(t, "Gels of Identity", got, err, drive.Solution{X: mat(3, 1, of(1), of(2), of(3)), Y: mat(3, 1, of(1), of(2), of(3)), F: unit(3)}, api.OK)
}

var cutoffs = []int{1, 2, 64, math.MaxInt}

// P37.1: equations of all sides, whose rows have to change places, too.
func TestSolve(t *testing.T) {
	s := source(1)
	for _, n := range []int{1, 2, 3, 5, 8} {
		for _, m := range []int{1, 2, 5} {
			for _, c := range cutoffs {
				for range 3 {
					for _, a := range []api.Mat{s.mat(n, n), s.smalls(n, n, 3), s.firm(n)} {
						b := s.mat(n, m)
						for _, x := range calls {
							x.hold(t, a, b, c)
						}
					}
					// More rows than columns.
					rows := n + 1 + s.below(4)
					calls[2].hold(t, s.mat(rows, n), s.mat(rows, m), c)
				}
				_, square := s.square(n)
				if calls[1].hold(t, square, s.mat(n, m), c) != api.OK {
					t.Error("P37.1: the test's square has no triangle")
				}
			}
		}
	}
	for _, x := range []call{calls[0], calls[2]} {
		if x.hold(t, s.mat(64, 64), s.mat(64, 3), 16) != api.OK {
			t.Error("P37.1: the test's great equations have no solution")
		}
	}
	if calls[1].hold(t, s.firm(64), s.mat(64, 64), 16) != api.OK {
		t.Error("P37.1: the test's great equations have no solution")
	}
}

// P37.1: the errors of what is given, in their order.
func TestGiven(t *testing.T) {
	for _, x := range calls {
		for _, c := range []int{1, 0} {
			for _, f := range faults() {
				for _, good := range []api.Mat{mat(1, 1, one), filled(2, 2, great), filled(2, 3, 0), filled(64, 1, 0)} {
					x.none(t, f.a, good, c, f.err)
					x.none(t, good, f.a, c, f.err)
				}
				x.none(t, f.a, filled(2, 2, inf), c, f.err)
			}
			for _, y := range [][4]int{{1, 2, 1, 1}, {2, 3, 2, 1}, {63, 64, 63, 1}, {2, 2, 1, 2}, {2, 2, 3, 2}, {64, 64, 63, 1}, {1, 1, 2, 1}} {
				for _, word := range []uint64{0, great} {
					x.none(t, filled(y[0], y[1], word), filled(y[2], y[3], word), c, api.ErrShape)
				}
			}
			if x.name != "Gels" {
				for _, y := range [][4]int{{2, 1, 2, 1}, {3, 2, 3, 1}, {64, 63, 64, 1}, {3, 2, 2, 1}} {
					x.none(t, filled(y[0], y[1], 0), filled(y[2], y[3], one), c, api.ErrShape)
				}
			} else {
				x.none(t, filled(3, 2, one), filled(2, 1, one), c, api.ErrShape)
			}
		}
		for _, c := range []int{0, -1, math.MinInt} {
			for _, n := range []int{1, 2, 64} {
				for _, word := range []uint64{0, 1, sign | great} {
					x.none(t, filled(n, n, word), filled(n, 1, great), c, api.ErrRange)
				}
			}
		}
	}
}

// P37.1: what has no factors: a zero pivot, no square, no mirrors, a zero on R's
// diagonal.
func TestFactors(t *testing.T) {
	for _, n := range []int{1, 2, 3, 5, 64} {
		for _, at := range []int{0, n / 2, n - 1} {
			for _, word := range []uint64{0, sign} {
				a, b := with(unit(n), at*n+at, word), filled(n, 2, great)
				calls[0].none(t, a, b, 1, api.ErrZero)
				calls[1].none(t, a, b, 1, api.ErrPivot)
				calls[2].none(t, a, b, 64, api.ErrZero)
			}
			calls[1].none(t, with(unit(n), at*n+at, sign|one), filled(n, 1, one), 1, api.ErrPivot)
		}
		if n > 1 {
			calls[1].none(t, with(unit(n), 1, one), filled(n, 1, one), 1, api.ErrState)
			calls[1].none(t, with(unit(n), n, sign), filled(n, 1, one), 0, api.ErrState)
			calls[2].none(t, filled(n, n, power(-1000)), filled(n, 1, one), 1, api.ErrZero)
			// The zero goes ahead of overflow in what the mirrors take b to.
			alike := filled(n, n, 0)
			for i := range n {
				alike.Data[i*n], alike.Data[i*n+n-1] = one, one
			}
			if n == 2 {
				calls[2].none(t, alike, filled(n, 1, great), 1, api.ErrZero)
			}
			calls[2].hold(t, alike, filled(n, 1, great), 1)
			calls[2].none(t, filled(n, n, power(600)), filled(n, 1, one), 1, api.ErrOverflow)
		}
	}
	for _, c := range cutoffs {
		calls[0].none(t, mat(2, 2, one, great, sign|one, great), filled(2, 1, one), c, api.ErrOverflow)
		calls[0].none(t, mat(3, 3, 0, 0, 0, 0, one, great, 0, sign|one, great), filled(3, 1, one), c, api.ErrOverflow)
		calls[1].none(t, mat(2, 2, one, power(600), power(600), one), filled(2, 1, one), c, api.ErrOverflow)
	}
}

// P37.1: overflow in the first solution, in the mirrored b, in the last solution.
func TestOverflow(t *testing.T) {
	for _, c := range cutoffs {
		calls[0].none(t, mat(2, 2, one, 0, one, one), mat(2, 1, great, sign|great), c, api.ErrOverflow)
		calls[0].none(t, mat(1, 1, power(-1)), mat(1, 1, great), c, api.ErrOverflow)
		calls[0].none(t, mat(2, 2, one, one, 0, one), mat(2, 1, sign|great, great), c, api.ErrOverflow)
		calls[1].none(t, mat(1, 1, power(-2)), mat(1, 1, great), c, api.ErrOverflow)
		calls[1].none(t, mat(1, 1, power(-1020)), mat(1, 1, power(100)), c, api.ErrOverflow) // y: 2^610
		calls[1].none(t, mat(1, 1, power(-1020)), mat(1, 1, power(600)), c, api.ErrOverflow)
		calls[2].none(t, filled(2, 1, one), filled(2, 1, great), c, api.ErrOverflow)
		calls[2].none(t, mat(1, 1, power(-1)), mat(1, 1, great), c, api.ErrOverflow)
		// What is behind the first rows counts, too.
		calls[2].none(t, mat(2, 1, one, one), mat(2, 1, great, sign|great), c, gelsErr(mat(2, 1, one, one), mat(2, 1, great, sign|great), c))
	}
	s := source(2)
	met := map[api.Errno]int{}
	for range 2000 {
		n, m := 1+s.below(4), 1+s.below(2)
		a, b := filled(n, n, 0), filled(n, m, 0)
		for k := range a.Data {
			a.Data[k] = []uint64{power(600), power(1022), power(-600), one, 0, sign, 1, two, sign | one}[s.below(9)]
		}
		for k := range b.Data {
			b.Data[k] = []uint64{power(1000), great, sign | great, one, 0, power(-1000)}[s.below(6)]
		}
		for _, x := range calls {
			met[x.hold(t, a, b, 1+s.below(2))]++
			met[x.hold(t, halvedAlike(a), b, 1+s.below(2))]++
		}
	}
	for _, err := range []api.Errno{api.OK, api.ErrZero, api.ErrOverflow, api.ErrPivot, api.ErrState} {
		if met[err] < 100 {
			t.Errorf("P37.1: the test meets error %d only %d times", err, met[err])
		}
	}
}

func gelsErr(a, b api.Mat, c int) api.Errno {
	_, err := gels(a, b, c)
	return err
}

// halvedAlike is a with its lower half above, its diagonal above 0.
func halvedAlike(a api.Mat) api.Mat {
	out := mirrored(a)
	for i := range out.Rows {
		out.Data[i*out.Cols+i] &^= sign
	}
	return out
}

func TestDet(t *testing.T) {
	hold := func(a api.Mat, cutoff int, want uint64, wantErr api.Errno) {
		t.Helper()
		if got, err := drive.Det(a, cutoff); got != want || err != wantErr {
			t.Errorf("P37.1: Det of %d by %d, cutoff %d, %#x = %#x, error %d; want %#x, error %d", a.Rows, a.Cols, cutoff, a.Data, got, err, want, wantErr)
		}
	}
	det := func(a api.Mat, c int) (uint64, api.Errno) {
		f, swaps, _ := factored(a, c)
		out := one
		for i := range a.Rows {
			out = times(out, f.Data[i*a.Cols+i])
		}
		if !isFinite(out) || !finite(f) {
			return 0, api.ErrOverflow
		}
		for i, k := range swaps {
			if i != k {
				out ^= sign
			}
		}
		return out, api.OK
	}
	hold(mat(2, 2, of(1), of(2), of(4), of(6)), 1, of(-2), api.OK)
	hold(mat(2, 2, of(4), of(6), of(1), of(2)), 1, of(2), api.OK)
	hold(mat(2, 2, 0, one, one, 0), 1, sign|one, api.OK)
	hold(mat(3, 3, 0, one, 0, 0, 0, one, one, 0, 0), 1, one, api.OK)
	// A zero pivot: 0, its sign as the product and the swaps tell it.
	hold(mat(1, 1, 0), 1, 0, api.OK)
	hold(mat(1, 1, sign), 1, sign, api.OK)
	hold(mat(2, 2, sign|one, 0, 0, 0), 1, sign, api.OK)
	hold(mat(3, 3, 0, one, 0, one, 0, 0, 0, 0, 0), 1, sign, api.OK)
	// Products in order, that overflow, whatever is behind, and that underflow.
	hold(mat(2, 2, great, 0, 0, great), 1, 0, api.ErrOverflow)
	hold(mat(3, 3, great, 0, 0, 0, two, 0, 0, 0, power(-10)), 1, 0, api.ErrOverflow)
	hold(mat(3, 3, great, 0, 0, 0, two, 0, 0, 0, 0), 1, 0, api.ErrOverflow)
	hold(mat(3, 3, power(-10), 0, 0, 0, great, 0, 0, 0, two), 1, times(times(power(-10), great), two), api.OK)
	hold(mat(2, 2, power(-600), 0, 0, power(-600)), 1, 0, api.OK)
	hold(mat(2, 2, sign|power(-600), 0, 0, power(-600)), 1, sign, api.OK)
	s := source(3)
	for _, n := range []int{1, 2, 3, 5, 8, 64} {
		for _, c := range cutoffs {
			hold(unit(n), c, one, api.OK)
			for range 5 {
				for _, a := range []api.Mat{s.mat(n, n), s.smalls(n, n, 3)} {
					want, wantErr := det(a, c)
					hold(a, c, want, wantErr)
				}
				if n > 8 {
					break
				}
			}
		}
	}
	for _, f := range faults() {
		for _, c := range []int{1, 0} {
			hold(f.a, c, 0, f.err)
		}
	}
	for _, x := range [][2]int{{1, 2}, {2, 1}, {3, 2}, {64, 63}} {
		for _, c := range []int{1, 0} {
			hold(filled(x[0], x[1], one), c, 0, api.ErrShape)
		}
	}
	for _, c := range []int{0, -1, math.MinInt} {
		for _, n := range []int{1, 2, 64} {
			hold(filled(n, n, great), c, 0, api.ErrRange)
		}
	}
	hold(mat(2, 2, one, great, sign|one, great), 1, 0, api.ErrOverflow)
	hold(mat(3, 3, 0, 0, 0, 0, one, great, 0, sign|one, great), 1, 0, api.ErrOverflow)
}

// P37.2: what Gesv tells is certified, and within G3's bound.
func TestCertified(t *testing.T) {
	s := source(4)
	for _, n := range []int{1, 2, 3, 5, 8, 16} {
		for _, c := range []int{1, 2, 64} {
			for range 4 {
				a, b := s.mat(n, n), s.mat(n, 2)
				got, err := drive.Gesv(a, b, c)
				if err != api.OK {
					continue
				}
				report, err := cert.Solve(a, b, got.X, got.F, got.Swaps, got.Y, c)
				if err != api.OK || !report.Holds {
					t.Errorf("P37.2: n %d, cutoff %d: error %d, %v", n, c, err, report)
				}
				l, u := halved(got.F, false, true), halved(got.F, true, false)
				far := triBound(n, 2, false, true, c).value(largest(l), largest(got.Y), true)
				far = sum(far, mul(whole(n), largest(l), triBound(n, 2, true, false, c).value(largest(u), largest(got.X), true)))
				far = sum(far, mul(whole(n), luBound(n, n, c).value(largest(l), largest(u), true), largest(got.X)))
				if left := off(a, got.X, b); left.Cmp(far) > 0 {
					t.Errorf("P37.2: n %d, cutoff %d: %.9g is left, bound %.9g", n, c, left, far)
				}
			}
		}
	}
}

// P37.3: what is handed in isn't changed, and shares nothing with what is told,
// nor do the lists of one answer.
func TestMemory(t *testing.T) {
	s := source(5)
	for _, n := range []int{1, 2, 3, 5} {
		_, a := s.square(n)
		for _, a := range []api.Mat{a, unit(n)} {
			b := filled(n, 2, of(3))
			for _, x := range calls {
				for part := range 3 {
					holdMemory(t, x.name, func(in [][]uint64) []uint64 {
						got, _ := x.of(mat(n, n, in[0]...), mat(n, 2, in[1]...), 1)
						return [][]uint64{got.X.Data, got.Y.Data, got.F.Data}[part]
					}, a.Data, b.Data)
				}
				got, _ := x.of(a, b, 1)
				again, _ := x.of(a, b, 1)
				for k := range got.Swaps {
					got.Swaps[k] = -1
				}
				lists := [][]uint64{got.X.Data, got.Y.Data, got.F.Data}
				for k, want := range [][]uint64{again.X.Data, again.Y.Data, again.F.Data} {
					for other, l := range lists {
						if other < k {
							continue
						}
						if other == k && !slices.Equal(l, want) {
							t.Errorf("P37.3: lists of %s's answer share words", x.name)
						}
					}
					for i := range lists[k] {
						lists[k][i] = ^lists[k][i]
					}
				}
				if slices.Contains(again.Swaps, -1) {
					t.Errorf("P37.3: %s's swaps are shared", x.name)
				}
			}
			in := slices.Clone(a.Data)
			drive.Det(mat(n, n, in...), 1)
			if !slices.Equal(in, a.Data) {
				t.Error("P37.3: Det changes its matrix")
			}
		}
	}
}
