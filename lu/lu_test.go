package lu_test

import (
	"fmt"
	"math"
	"slices"
	"testing"

	"vernier/api"
	"vernier/lu"
)

// hold holds Factor against what is wanted.
func hold(t *testing.T, a api.Mat, cutoff int, want api.Mat, swaps []int, zero int, wantErr api.Errno) {
	t.Helper()
	what := fmt.Sprintf("P30.1: Factor of %d by %d, cutoff %d", a.Rows, a.Cols, cutoff)
	if len(a.Data) < 20 {
		what += fmt.Sprintf(", %#x", a.Data)
	}
	got, gotSwaps, gotZero, err := lu.Factor(a, cutoff)
	expect(t, what, got, err, want, wantErr)
	if !slices.Equal(gotSwaps, swaps) || gotZero != zero {
		t.Errorf("%s: swaps %v, column %d; want %v, %d", what, gotSwaps, gotZero, swaps, zero)
	}
}

// holdWords holds Factor against the chapter's words, and P30.2 of what it tells.
func holdWords(t *testing.T, a api.Mat, cutoff int) {
	t.Helper()
	want, swaps, zero := factored(a, cutoff)
	if slices.ContainsFunc(want.Data, func(x uint64) bool { return !isFinite(x) }) {
		hold(t, a, cutoff, api.Mat{}, nil, 0, api.ErrOverflow)
		return
	}
	hold(t, a, cutoff, want, swaps, zero, api.OK)
	got, _, _, _ := lu.Factor(a, cutoff)
	for i := range got.Rows {
		for j := range min(i, got.Cols) {
			if got.Data[i*got.Cols+j]&^sign > one {
				t.Errorf("P30.2: Factor of %d by %d tells %#x below the diagonal", a.Rows, a.Cols, got.Data[i*got.Cols+j])
			}
		}
	}
}

var sides = [][2]int{{1, 1}, {2, 1}, {2, 2}, {3, 1}, {3, 2}, {3, 3}, {4, 4}, {5, 4}, {5, 5}, {7, 3}, {8, 8}, {9, 6}}

func TestFactor(t *testing.T) {
	hold(t, mat(1, 1, of(3)), 1, mat(1, 1, of(3)), []int{0}, -1, api.OK)
	hold(t, mat(2, 1, of(1), of(-4)), 1, mat(2, 1, of(-4), of(-0.25)), []int{1}, -1, api.OK)
	hold(t, mat(2, 2, of(1), of(2), of(4), of(6)), 1, mat(2, 2, of(4), of(6), of(0.25), of(0.5)), []int{1, 1}, -1, api.OK)
	hold(t, mat(3, 3, of(2), of(4), of(6), of(4), of(4), of(4), of(1), of(5), of(9)), 1, mat(3, 3, of(4), of(4), of(4), of(0.25), of(4), of(8), of(0.5), of(0.5), of(0)), []int{1, 2, 2}, 2, api.OK)
	s := source(1)
	for _, x := range sides {
		for _, c := range []int{1, 2, 3, 64, math.MaxInt} {
			for range 10 {
				holdWords(t, s.mat(x[0], x[1]), c)
				holdWords(t, s.smalls(x[0], x[1], 3), c)
			}
		}
	}
	for _, x := range [][3]int{{64, 64, 16}, {64, 64, 1}, {64, 63, 64}, {64, 1, 1}, {63, 33, 5}} {
		holdWords(t, s.mat(x[0], x[1]), x[2])
	}
}

// P30.1: the order in which numbers are taken away and rounded, and zeros' signs.
func TestFactorBits(t *testing.T) {
	s := source(2)
	pool := []uint64{0, sign, one, sign | one, power(-53), sign | power(-53), one + 1, sign | (one + 1), two, power(30)}
	for range 3000 {
		x := sides[s.below(len(sides)-1)]
		a := filled(x[0], x[1], 0)
		for k := range a.Data {
			a.Data[k] = pool[s.below(len(pool))]
		}
		holdWords(t, a, 1+s.below(3))
	}
	// 1 by 3, rounded; the product of two that is no number; taken from one.
	third := of(1.0 / 3)
	hold(t, mat(2, 2, of(3), of(7), of(1), of(2)), 1, mat(2, 2, of(3), of(7), third, less(two, times(third, of(7)))), []int{0, 1}, -1, api.OK)
}

// P30.1: zero pivots, of either sign, at the first, a middle and the last column;
// several of them: the first counts.
func TestFactorZero(t *testing.T) {
	hold(t, mat(1, 1, 0), 1, mat(1, 1, 0), []int{0}, 0, api.OK)
	hold(t, mat(1, 1, sign), 1, mat(1, 1, sign), []int{0}, 0, api.OK)
	hold(t, mat(3, 1, sign, 0, sign), 64, mat(3, 1, sign, 0, sign), []int{0}, 0, api.OK)
	hold(t, mat(2, 2, 0, one, sign, two), 1, mat(2, 2, 0, one, sign, two), []int{0, 1}, 0, api.OK)
	hold(t, mat(2, 1, 0, 1), 1, mat(2, 1, 1, 0), []int{1}, -1, api.OK)
	for _, n := range []int{1, 2, 3, 5, 8, 64} {
		for _, zero := range []uint64{0, sign} {
			hold(t, filled(n, n, zero), 1, filled(n, n, zero), steps(n), 0, api.OK)
			for _, at := range []int{0, n / 2, n - 1} {
				a := unit(n)
				a.Data[at*n+at] = zero
				_, swaps, first := factored(a, 1)
				if first != at {
					t.Errorf("P30.1: the test's zero pivot is %d, not %d", first, at)
				}
				want, _, _ := factored(a, 1)
				hold(t, a, 1, want, swaps, at, api.OK)
				for _, other := range []int{0, n / 2, n - 1} {
					b := with(a, other*n+other, zero)
					want, swaps, _ := factored(b, 2)
					hold(t, b, 2, want, swaps, min(at, other), api.OK)
				}
			}
		}
	}
	s := source(3)
	for range 300 {
		// Columns alike make zero pivots.
		n := 2 + s.below(5)
		a := s.smalls(n, n, 2)
		from, to := s.below(n), s.below(n)
		for i := range n {
			a.Data[i*n+to] = a.Data[i*n+from]
		}
		holdWords(t, a, 1+s.below(2))
	}
}

// steps are swaps of each row with itself.
func steps(n int) []int {
	var out []int
	for i := range n {
		out = append(out, i)
	}
	return out
}

// P30.1: of equal pivots the first row counts; swaps with itself and with rows
// behind, and what stands at the left is swapped, too.
func TestFactorSwaps(t *testing.T) {
	hold(t, mat(3, 1, of(-2), of(2), of(2)), 1, mat(3, 1, of(-2), of(-1), of(-1)), []int{0}, -1, api.OK)
	hold(t, mat(3, 1, of(1), of(-2), of(2)), 1, mat(3, 1, of(-2), of(-0.5), of(-1)), []int{1}, -1, api.OK)
	for _, n := range []int{2, 3, 5, 8, 64} {
		// Rows from the last to the first: each swap is undone no more.
		a := filled(n, n, 0)
		var want []int
		for i := range n {
			a.Data[i*n+n-1-i] = one
			want = append(want, max(i, n-1-i))
		}
		hold(t, a, 1, unit(n), want, -1, api.OK)
		hold(t, unit(n), 1, unit(n), steps(n), -1, api.OK)
	}
	// The last rows change places behind the left half is done.
	hold(t, mat(3, 3, of(4), 0, 0, of(1), 0, of(1), of(2), of(1), 0), 1, mat(3, 3, of(4), 0, 0, of(0.5), of(1), 0, of(0.25), 0, of(1)), []int{0, 2, 2}, -1, api.OK)
	hold(t, mat(4, 4, of(4), 0, 0, 0, of(2), of(1), 0, 0, of(1), 0, 0, of(1), of(3), 0, of(1), 0), 1, mat(4, 4, of(4), 0, 0, 0, of(0.5), of(1), 0, 0, of(0.75), 0, of(1), 0, of(0.25), 0, 0, of(1)), []int{0, 1, 3, 3}, -1, api.OK)
}

// P30.1: the errors, in their order.
func TestFactorErrors(t *testing.T) {
	for _, f := range faults() {
		for _, c := range []int{1, 0, -1, 64} {
			hold(t, f.a, c, api.Mat{}, nil, 0, f.err)
		}
	}
	for _, x := range [][2]int{{1, 2}, {1, 64}, {2, 3}, {63, 64}} {
		for _, word := range []uint64{0, one, great} {
			for _, c := range []int{1, 0, -1, 64} {
				hold(t, filled(x[0], x[1], word), c, api.Mat{}, nil, 0, api.ErrShape)
			}
		}
		for _, word := range lost {
			hold(t, filled(x[0], x[1], word), 0, api.Mat{}, nil, 0, api.ErrInput)
		}
	}
	for _, c := range []int{0, -1, -64, math.MinInt, math.MinInt + 1} {
		for _, n := range []int{1, 2, 64} {
			hold(t, filled(n, n, great), c, api.Mat{}, nil, 0, api.ErrRange)
			hold(t, filled(n, n, 0), c, api.Mat{}, nil, 0, api.ErrRange)
		}
	}
}

// P30.1: overflow on the way and in the end.
func TestFactorOverflow(t *testing.T) {
	over := func(a api.Mat, cutoff int) {
		t.Helper()
		hold(t, a, cutoff, api.Mat{}, nil, 0, api.ErrOverflow)
	}
	for _, c := range []int{1, 2, 64} {
		// In the difference, at the last place.
		over(mat(2, 2, one, great, sign|one, great), c)
		// In the product: 2 by 2 of the greatest ones.
		over(mat(3, 3, one, 0, great, 0, one, great, sign|one, sign|one, 0), c)
		// In the solution of the first rows.
		over(mat(4, 4, one, 0, great, 0, sign|one, one, great, 0, 0, 0, one, 0, 0, 0, 0, one), c)
		// Below what counts, in rows more than columns.
		over(mat(3, 2, one, great, 0, 0, sign|one, great), c)
	}
	// A sum of blocks, by seven products alone: what stands at the left is 1s, what
	// stands above great ones of both signs.
	a := mat(4, 4, one, 0, great, sign|great, 0, one, 0, 0, 0, 0, one, 0, 0, 0, 0, one)
	holdWords(t, a, 2)
	over(a, 1)
	b := mat(4, 4, one, 0, 0, 0, 0, one, 0, 0, 0, 0, great, 0, 0, 0, 0, great)
	holdWords(t, b, 1)
	s := source(4)
	for range 500 {
		// Great numbers of both signs.
		n := 1 + s.below(5)
		a := filled(n+s.below(2), n, 0)
		for k := range a.Data {
			a.Data[k] = []uint64{great, sign | great, power(1022), power(1000), one, 0}[s.below(6)]
		}
		holdWords(t, a, 1+s.below(3))
	}
}

// P30.2: the rows, in order, less the product of both triangles are within the
// bound.
func TestFactorBound(t *testing.T) {
	s := source(5)
	for _, x := range append(sides, [2]int{16, 16}, [2]int{20, 13}) {
		for _, c := range []int{1, 2, 64} {
			a := s.mat(x[0], x[1])
			got, swaps, _, err := lu.Factor(a, c)
			if err != api.OK {
				t.Errorf("P30.2: error %d", err)
				continue
			}
			l, u, _ := lu.Split(got)
			bound := luBound(x[0], x[1], c).value(largest(l), largest(u), true)
			if left := off(l, u, swapped(a, swaps)); left.Cmp(bound) > 0 {
				t.Errorf("P30.2: %d by %d, cutoff %d: %.9g is left, bound %.9g", x[0], x[1], c, left, bound)
			}
		}
	}
}

func TestSplit(t *testing.T) {
	hold := func(f, wantL, wantU api.Mat, wantErr api.Errno) {
		t.Helper()
		l, u, err := lu.Split(f)
		what := fmt.Sprintf("P30.1: Split of %d by %d", f.Rows, f.Cols)
		expect(t, what+", lower", l, err, wantL, wantErr)
		expect(t, what+", upper", u, err, wantU, wantErr)
	}
	hold(mat(3, 2, 11, 12, 13, 14, 15, 16), mat(3, 2, one, 0, 13, one, 15, 16), mat(2, 2, 11, 12, 0, 14), api.OK)
	hold(mat(1, 1, inf), mat(1, 1, one), mat(1, 1, inf), api.OK)
	for _, x := range append(sides, [2]int{64, 64}, [2]int{64, 1}, [2]int{64, 63}) {
		f := mat(x[0], x[1])
		for k := range x[0] * x[1] {
			f.Data = append(f.Data, append(lost, sign, one, 1, 0)[k%13])
		}
		hold(f, halved(f, false, true), cut(halved(f, true, false), 0, 0, x[1], x[1]), api.OK)
	}
	for _, a := range broken() {
		hold(a, api.Mat{}, api.Mat{}, api.ErrShape)
	}
	for _, x := range [][2]int{{1, 2}, {2, 3}, {63, 64}, {1, 64}} {
		hold(filled(x[0], x[1], one), api.Mat{}, api.Mat{}, api.ErrShape)
	}
}

func TestSign(t *testing.T) {
	for _, x := range []struct {
		swaps []int
		want  int
	}{
		{nil, 1}, {[]int{}, 1}, {[]int{0}, 1}, {[]int{1}, -1}, {[]int{0, 1}, 1}, {[]int{1, 1}, -1}, {[]int{1, 2}, 1}, {[]int{1, 2, 2}, 1}, {[]int{2, 2, 2}, 1}, {[]int{2, 1, 2}, -1},
		{[]int{1, 2, 3}, -1}, {[]int{-1}, -1}, {[]int{math.MaxInt, math.MinInt}, 1}, {steps(64), 1}, {append(steps(63), 64), -1}, {make([]int, 100), -1}, {make([]int, 101), 1},
	} {
		if got := lu.Sign(x.swaps); got != x.want {
			t.Errorf("P30.1: Sign(%v) = %d", x.swaps, got)
		}
	}
}

// P30.3: what is handed in isn't changed, and shares nothing with what is told.
func TestMemory(t *testing.T) {
	s := source(6)
	for _, x := range [][2]int{{1, 1}, {2, 1}, {3, 3}, {5, 4}} {
		for _, a := range []api.Mat{s.mat(x[0], x[1]), filled(x[0], x[1], 0), s.smalls(x[0], x[1], 2)} {
			holdMemory(t, "Factor", func(in [][]uint64) []uint64 {
				got, _, _, _ := lu.Factor(mat(x[0], x[1], in[0]...), 1)
				return got.Data
			}, a.Data)
			for part := range 2 {
				holdMemory(t, "Split", func(in [][]uint64) []uint64 {
					l, u, _ := lu.Split(mat(x[0], x[1], in[0]...))
					return [][]uint64{l.Data, u.Data}[part]
				}, a.Data)
			}
			// Swaps are new each time; both triangles share none.
			_, swaps, _, _ := lu.Factor(a, 1)
			want := slices.Clone(swaps)
			_, again, _, _ := lu.Factor(a, 1)
			again[0] = 99
			if !slices.Equal(swaps, want) {
				t.Error("P30.3: Factor's swaps are shared")
			}
			l, u, _ := lu.Split(a)
			told := slices.Clone(u.Data)
			clear(l.Data)
			if !slices.Equal(u.Data, told) {
				t.Error("P30.3: Split's triangles share words")
			}
		}
	}
	in := []int{1, 1, 2, 0, 0}
	lu.Sign(in[:3])
	if !slices.Equal(in, []int{1, 1, 2, 0, 0}) {
		t.Error("P30.3: Sign changes its list")
	}
}
