package chol_test

import (
	"fmt"
	"math"
	"slices"
	"testing"

	"vernier/api"
	"vernier/chol"
)

// hold holds Factor against what is wanted.
func hold(t *testing.T, a api.Mat, cutoff int, want api.Mat, place int, wantErr api.Errno) {
	t.Helper()
	what := fmt.Sprintf("P31.1: Factor of %d by %d, cutoff %d", a.Rows, a.Cols, cutoff)
	if len(a.Data) < 20 {
		what += fmt.Sprintf(", %#x", a.Data)
	}
	got, gotPlace, err := chol.Factor(a, cutoff)
	expect(t, what, got, err, want, wantErr)
	if gotPlace != place {
		t.Errorf("%s: place %d, want %d", what, gotPlace, place)
	}
}

// holdWords holds Factor against the chapter's words.
func holdWords(t *testing.T, a api.Mat, cutoff int) {
	t.Helper()
	want, place, ok := squared(a, cutoff)
	switch {
	case !ok:
		hold(t, a, cutoff, api.Mat{}, 0, api.ErrOverflow)
	case place >= 0:
		hold(t, a, cutoff, api.Mat{}, place, api.ErrPivot)
	default:
		hold(t, a, cutoff, want, -1, api.OK)
	}
}

func TestFactor(t *testing.T) {
	hold(t, mat(1, 1, of(4)), 1, mat(1, 1, of(2)), -1, api.OK)
	hold(t, mat(2, 2, of(4), of(6), of(6), of(10)), 1, mat(2, 2, of(2), 0, of(3), of(1)), -1, api.OK)
	hold(t, mat(1, 1, 1), 1, mat(1, 1, power(-537)), -1, api.OK)
	hold(t, mat(1, 1, great), 64, mat(1, 1, root(great)), -1, api.OK)
	s := source(1)
	for _, n := range []int{1, 2, 3, 4, 5, 6, 7, 8, 11} {
		for _, c := range []int{1, 2, 3, 64, math.MaxInt} {
			for range 10 {
				holdWords(t, s.firm(n), c)
				// Of whole numbers it is exact.
				l, a := s.square(n)
				got, place, err := chol.Factor(a, c)
				for k, word := range got.Data {
					if word == sign {
						got.Data[k] = 0
					}
				}
				expect(t, fmt.Sprintf("P31.1: Factor of a triangle's square, %d rows, cutoff %d", n, c), got, err, l, api.OK)
				if place != -1 {
					t.Errorf("P31.1: place %d", place)
				}
				holdWords(t, a, c)
			}
		}
	}
	for _, x := range [][2]int{{64, 16}, {64, 1}, {63, 64}, {33, 5}} {
		holdWords(t, s.firm(x[0]), x[1])
	}
}

// P31.1: what is above the diagonal is +0; numbers' last bits and zeros' signs.
func TestFactorBits(t *testing.T) {
	s := source(2)
	pool := []uint64{0, sign, one, sign | one, power(-53), one + 1, sign | (one + 1), two, power(-30), of(3)}
	for range 2000 {
		n := 1 + s.below(6)
		a := filled(n, n, 0)
		for k := range a.Data {
			a.Data[k] = pool[s.below(len(pool))]
			if k%(n+1) == 0 {
				a.Data[k] = of(float64(s.below(4*n) + 2))
			}
		}
		holdWords(t, mirrored(a), 1+s.below(3))
	}
	hold(t, mat(2, 2, one, sign, sign, one), 1, mat(2, 2, one, 0, sign, one), -1, api.OK)
}

// P31.1: a number that has no root, at any place: 0 of either sign, one below 0.
func TestFactorPivot(t *testing.T) {
	s := source(3)
	for _, n := range []int{1, 2, 3, 5, 8, 64} {
		for _, at := range []int{0, n / 2, n - 1} {
			for _, word := range []uint64{0, sign, sign | 1, sign | one, sign | great} {
				for _, c := range []int{1, 64} {
					hold(t, with(unit(n), at*n+at, word), c, api.Mat{}, at, api.ErrPivot)
					for other := at; other < n; other += 1 + n/4 { // the first counts
						hold(t, with(with(unit(n), other*n+other, 0), at*n+at, word), c, api.Mat{}, at, api.ErrPivot)
					}
				}
			}
			if n < 20 && at > 0 {
				// What is left of a triangle's square without its last number.
				l, _ := s.square(n)
				l.Data[at*n+at] = 0
				holdWords(t, product(l, transposed(l)), 1)
				a := product(l, transposed(l))
				hold(t, a, 64, api.Mat{}, at, api.ErrPivot)
				a.Data[at*n+at] = less(a.Data[at*n+at], one)
				hold(t, a, 2, api.Mat{}, at, api.ErrPivot)
			}
		}
	}
}

// P31.1: the errors, in their order; beside them the place is 0.
func TestFactorErrors(t *testing.T) {
	over := mat(2, 2, power(-1000), great, great, one)
	for _, f := range faults() {
		for _, c := range []int{1, 0, -1, 64} {
			hold(t, f.a, c, api.Mat{}, 0, f.err)
		}
	}
	for _, x := range [][2]int{{1, 2}, {2, 1}, {3, 2}, {63, 64}, {64, 63}, {1, 64}} {
		for _, c := range []int{1, 0} {
			hold(t, filled(x[0], x[1], 0), c, api.Mat{}, 0, api.ErrShape)
		}
		hold(t, filled(x[0], x[1], inf), 0, api.Mat{}, 0, api.ErrInput)
	}
	for _, n := range []int{2, 3, 64} {
		for _, at := range []int{1, n - 1, n, n*n - n, n*n - 2} {
			for _, word := range []uint64{sign, 1, one} {
				for _, c := range []int{1, 0, 64} {
					hold(t, with(unit(n), at, word), c, api.Mat{}, 0, api.ErrState)
					hold(t, with(filled(n, n, sign|one), at, one+1), c, api.Mat{}, 0, api.ErrState)
				}
			}
		}
	}
	for bit := range 52 { // alike but for one bit
		hold(t, mat(2, 2, one, one, one^1<<bit, one), 0, api.Mat{}, 0, api.ErrState)
	}
	for _, c := range []int{0, -1, -64, math.MinInt} {
		for _, a := range []api.Mat{mat(1, 1, one), mat(1, 1, 0), unit(3), filled(64, 64, sign), over} {
			hold(t, a, c, api.Mat{}, 0, api.ErrRange)
		}
	}
}

// P31.1: overflow in the solution, in the product, in what is left.
func TestFactorOverflow(t *testing.T) {
	for _, c := range []int{1, 2, 64} {
		hold(t, mat(2, 2, power(-1000), great, great, one), c, api.Mat{}, 0, api.ErrOverflow)
		hold(t, mat(2, 2, one, power(512), power(512), one), c, api.Mat{}, 0, api.ErrOverflow)
		hold(t, mat(2, 2, one, power(511), power(511), one), c, api.Mat{}, 1, api.ErrPivot)
		// What is left above the diagonal, or below it.
		hold(t, mat(3, 3, one, power(511), sign|power(511), power(511), great, great, sign|power(511), great, great), c, api.Mat{}, 0, api.ErrOverflow)
		// The first number that has no root ends it, whatever is behind.
		hold(t, mat(3, 3, 0, one, one, one, great, sign|great, one, sign|great, great), c, api.Mat{}, 0, api.ErrPivot)
		hold(t, mat(2, 2, sign|one, great, great, great), c, api.Mat{}, 0, api.ErrPivot)
	}
	s := source(4)
	for range 1000 {
		n := 2 + s.below(4)
		a := filled(n, n, 0)
		for k := range a.Data {
			a.Data[k] = []uint64{power(511), power(505), sign | power(511), one, 0, great}[s.below(6)]
			if k%(n+1) == 0 {
				a.Data[k] = []uint64{one, great, power(1020), power(1000), power(2)}[s.below(5)]
			}
		}
		holdWords(t, mirrored(a), 1+s.below(2))
	}
}

// P31.2: the matrix less the triangle's square is within the bound.
func TestFactorBound(t *testing.T) {
	s := source(5)
	for _, n := range []int{1, 2, 3, 5, 8, 13, 20} {
		for _, c := range []int{1, 2, 64} {
			a := s.firm(n)
			l, _, err := chol.Factor(a, c)
			if err != api.OK {
				t.Errorf("P31.2: error %d", err)
				continue
			}
			bound := cholBound(n, c).value(largest(l), largest(l), true)
			if left := off(l, transposed(l), a); left.Cmp(bound) > 0 {
				t.Errorf("P31.2: n %d, cutoff %d: %.9g is left, bound %.9g", n, c, left, bound)
			}
		}
	}
}

// words are matrices of any words, alike transposed.
func words(n int) api.Mat {
	out := mat(n, n)
	for k := range n * n {
		out.Data = append(out.Data, append(lost, sign, 0, one, 1)[k%13])
	}
	return mirrored(out)
}

func TestEven(t *testing.T) {
	hold := func(a api.Mat, want bool) {
		t.Helper()
		if got := chol.Even(a); got != want {
			t.Errorf("P31.1: Even(%d by %d, %d words) = %v", a.Rows, a.Cols, len(a.Data), got)
		}
	}
	for _, n := range []int{1, 2, 3, 5, 64} {
		a := words(n)
		hold(a, true)
		hold(unit(n), true)
		for _, at := range []int{1, n - 1, n, n*n - n, n*n - 2} {
			if n > 1 && at%(n+1) != 0 {
				for _, bit := range []int{0, 20, 51, 52, 63} {
					hold(with(a, at, a.Data[at]^1<<bit), false)
					hold(with(unit(n), at, 1<<bit), false)
				}
			}
		}
		for at := 0; at < n*n; at += n + 1 {
			hold(with(a, at, ^a.Data[at]), true)
		}
	}
	hold(mat(2, 2, 0, api.NaN, api.NaN, 0), true)
	hold(mat(2, 2, 0, api.NaN, api.NaN+1, 0), false)
	hold(mat(2, 2, 0, api.NaN, sign|api.NaN, 0), false)
	hold(mat(2, 2, 0, 0, sign, 0), false)
	for _, a := range broken() {
		hold(a, false)
	}
	for _, x := range [][2]int{{1, 2}, {2, 1}, {2, 4}, {63, 64}, {1, 64}} {
		hold(filled(x[0], x[1], one), false)
	}
}

func TestMirror(t *testing.T) {
	hold := func(a, want api.Mat, wantErr api.Errno) {
		t.Helper()
		got, err := chol.Mirror(a)
		expect(t, fmt.Sprintf("P31.1: Mirror of %d by %d", a.Rows, a.Cols), got, err, want, wantErr)
	}
	hold(mat(2, 2, 11, 12, 13, 14), mat(2, 2, 11, 13, 13, 14), api.OK)
	for _, n := range []int{1, 2, 3, 5, 64} {
		a := words(n)
		hold(a, a, api.OK)
		for k := range a.Data {
			a.Data[k] = uint64(k) | inf
		}
		hold(a, mirrored(a), api.OK)
	}
	for _, a := range broken() {
		hold(a, api.Mat{}, api.ErrShape)
	}
	for _, x := range [][2]int{{1, 2}, {2, 1}, {2, 4}, {64, 63}, {1, 64}} {
		hold(filled(x[0], x[1], one), api.Mat{}, api.ErrShape)
	}
}

// P31.3: what is handed in isn't changed, and shares nothing with what is told.
func TestMemory(t *testing.T) {
	s := source(6)
	for _, n := range []int{1, 2, 3, 5} {
		_, square := s.square(n)
		for _, a := range []api.Mat{s.firm(n), unit(n), square} {
			holdMemory(t, "Factor", func(in [][]uint64) []uint64 {
				got, _, _ := chol.Factor(mat(n, n, in[0]...), 1)
				return got.Data
			}, a.Data)
			holdMemory(t, "Mirror", func(in [][]uint64) []uint64 {
				got, _ := chol.Mirror(mat(n, n, in[0]...))
				return got.Data
			}, a.Data)
			in := slices.Clone(a.Data)
			chol.Even(mat(n, n, in...))
			if !slices.Equal(in, a.Data) {
				t.Error("P31.3: Even changes its matrix")
			}
		}
	}
}
