package qr_test

import (
	"fmt"
	"math"
	"slices"
	"testing"

	"vernier/api"
	"vernier/qr"
)

// hold holds Factor against what is wanted.
func hold(t *testing.T, a api.Mat, cutoff int, y, tt, r api.Mat, wantErr api.Errno) {
	t.Helper()
	what := fmt.Sprintf("P32.1: Factor of %d by %d, cutoff %d", a.Rows, a.Cols, cutoff)
	if len(a.Data) < 20 {
		what += fmt.Sprintf(", %#x", a.Data)
	}
	gotY, gotT, gotR, err := qr.Factor(a, cutoff)
	expect(t, what+": Y", gotY, err, y, wantErr)
	expect(t, what+": T", gotT, err, tt, wantErr)
	expect(t, what+": R", gotR, err, r, wantErr)
}

// holdWords holds Factor against the chapter's words, and P32.2 of what it tells.
func holdWords(t *testing.T, a api.Mat, cutoff int) api.Errno {
	t.Helper()
	y, tt, r, err := mirrored(a, cutoff)
	if err != api.OK {
		hold(t, a, cutoff, api.Mat{}, api.Mat{}, api.Mat{}, err)
		return err
	}
	hold(t, a, cutoff, y, tt, r, api.OK)
	y, tt, r, _ = qr.Factor(a, cutoff)
	for k, word := range y.Data {
		if i, j := k/y.Cols, k%y.Cols; i < j && word != 0 || i == j && word != one {
			t.Errorf("P32.2: Y of %d by %d has %#x at %d, %d", a.Rows, a.Cols, word, i, j)
		}
	}
	for k := range tt.Data {
		if i, j := k/tt.Cols, k%tt.Cols; i > j && (tt.Data[k] != 0 || r.Data[k] != 0) {
			t.Errorf("P32.2: T, R of %d by %d have %#x, %#x at %d, %d", a.Rows, a.Cols, tt.Data[k], r.Data[k], i, j)
		}
	}
	return api.OK
}

var sides = [][2]int{{1, 1}, {2, 1}, {2, 2}, {3, 1}, {3, 2}, {3, 3}, {4, 4}, {5, 4}, {5, 5}, {7, 3}, {8, 6}, {9, 8}}

func TestFactor(t *testing.T) {
	// 3, 4: its mirror takes it to -5; tau is 8 by 5, v 4 by 8.
	hold(t, mat(2, 1, of(3), of(4)), 1, mat(2, 1, one, of(0.5)), mat(1, 1, by(of(8), of(5))), mat(1, 1, of(-5)), api.OK)
	hold(t, mat(1, 1, of(7)), 1, mat(1, 1, one), mat(1, 1, 0), mat(1, 1, of(7)), api.OK)
	hold(t, mat(2, 2, of(1), of(2), 0, of(3)), 1, unit(2), mat(2, 2, 0, sign, 0, 0), mat(2, 2, of(1), of(2), 0, of(3)), api.OK)
	s := source(1)
	for _, x := range sides {
		for _, c := range []int{1, 2, 3, 64, math.MaxInt} {
			for range 10 {
				holdWords(t, s.mat(x[0], x[1]), c)
				holdWords(t, s.smalls(x[0], x[1], 3), c)
			}
		}
	}
	for _, x := range [][3]int{{64, 64, 16}, {64, 63, 1}, {64, 64, 64}, {64, 1, 1}, {63, 33, 5}} {
		if err := holdWords(t, s.mat(x[0], x[1]), x[2]); err != api.OK {
			t.Errorf("P32.1: the test's great matrix has error %d", err)
		}
	}
}

// P32.1: zeros' signs and last bits; columns of zeros, and multiples of others.
func TestFactorBits(t *testing.T) {
	s := source(2)
	pool := []uint64{0, sign, one, sign | one, power(-53), sign | power(-53), one + 1, sign | (one + 1), two, power(30)}
	for range 2000 {
		x := sides[s.below(len(sides))]
		a := filled(x[0], x[1], 0)
		for k := range a.Data {
			a.Data[k] = pool[s.below(len(pool))]
		}
		holdWords(t, a, 1+s.below(3))
	}
	for range 300 {
		x := sides[4+s.below(len(sides)-4)]
		a := s.smalls(x[0], x[1], 3)
		from, to, factor := s.below(x[1]), s.below(x[1]), []uint64{0, sign, one, sign | two, of(3)}[s.below(5)]
		for i := range x[0] {
			a.Data[i*x[1]+to] = times(factor, a.Data[i*x[1]+from])
		}
		holdWords(t, a, 1+s.below(3))
	}
	for _, x := range sides {
		for _, zero := range []uint64{0, sign} {
			if err := holdWords(t, filled(x[0], x[1], zero), 1); err != api.OK {
				t.Errorf("P32.1: of zeros the error is %d", err)
			}
		}
	}
}

// P32.1: numbers so small that ErrZero is told, so great that one is not finite.
func TestFactorFaults(t *testing.T) {
	none := func(a api.Mat, cutoff int, want api.Errno) {
		t.Helper()
		hold(t, a, cutoff, api.Mat{}, api.Mat{}, api.Mat{}, want)
	}
	for _, c := range []int{1, 2, 64} {
		for _, x := range []uint64{1, sign | 1, power(-540), power(-1000)} {
			none(mat(2, 1, x, x), c, api.ErrZero)
			none(mat(2, 1, 0, x), c, api.ErrZero)
			none(mat(3, 2, one, 0, 0, x, 0, x), c, api.ErrZero)
			none(mat(4, 4, one, 0, 0, 0, 0, one, 0, 0, 0, 0, x, 0, 0, 0, x, 0), c, api.ErrZero)
			hold(t, mat(2, 1, x, 0), c, mat(2, 1, one, 0), mat(1, 1, 0), mat(1, 1, x), api.OK)
		}
		for _, x := range []uint64{power(512), great, sign | great} {
			none(mat(2, 1, x, x), c, api.ErrOverflow)
			none(mat(2, 1, 0, x), c, api.ErrOverflow)
			none(mat(3, 2, one, 0, 0, x, 0, x), c, api.ErrOverflow)
			hold(t, mat(2, 1, x, 0), c, mat(2, 1, one, 0), mat(1, 1, 0), mat(1, 1, x), api.OK)
			// The first fault counts.
			none(mat(2, 2, 1, x, 1, x), c, api.ErrZero)
			none(mat(2, 2, x, 1, x, 1), c, api.ErrOverflow)
		}
		// In a product, in what is left.
		none(mat(2, 2, one, great, one, great), c, api.ErrOverflow)
		none(mat(2, 2, of(3), great, of(4), sign|great), c, api.ErrOverflow)
	}
	s := source(3)
	met := map[api.Errno]int{}
	for range 3000 {
		x := sides[s.below(len(sides))]
		a := filled(x[0], x[1], 0)
		for k := range a.Data {
			a.Data[k] = []uint64{power(510), power(505), sign | power(511), one, 0, great, power(-538), power(-530), 0, 0}[s.below(10)]
		}
		met[holdWords(t, a, 1+s.below(3))]++
	}
	for _, err := range []api.Errno{api.OK, api.ErrZero, api.ErrOverflow} {
		if met[err] < 50 {
			t.Errorf("P32.1: the test meets error %d only %d times", err, met[err])
		}
	}
}

// P32.1: the errors, in their order.
func TestFactorErrors(t *testing.T) {
	none := func(a api.Mat, cutoff int, want api.Errno) {
		t.Helper()
		hold(t, a, cutoff, api.Mat{}, api.Mat{}, api.Mat{}, want)
	}
	for _, f := range faults() {
		for _, c := range []int{1, 0, -1, 64} {
			none(f.a, c, f.err)
		}
	}
	for _, x := range [][2]int{{1, 2}, {1, 64}, {2, 3}, {63, 64}} {
		for _, word := range []uint64{0, one, great, 1} {
			for _, c := range []int{1, 0, -1, 64} {
				none(filled(x[0], x[1], word), c, api.ErrShape)
			}
		}
		none(filled(x[0], x[1], inf), 0, api.ErrInput)
	}
	for _, c := range []int{0, -1, -64, math.MinInt} {
		for _, n := range []int{1, 2, 64} {
			for _, word := range []uint64{0, one, great, 1} {
				none(filled(n, n, word), c, api.ErrRange)
			}
		}
	}
}

// holdApply holds Apply against the chapter's words.
func holdApply(t *testing.T, y, tt, c api.Mat, turned bool, cutoff int) api.Errno {
	t.Helper()
	what := fmt.Sprintf("P32.1: Apply of %d by %d, %d by %d, turned %v, cutoff %d", y.Rows, y.Cols, c.Rows, c.Cols, turned, cutoff)
	by := tt
	if turned {
		by = transposed(tt)
	}
	want, wantErr := applied(y, by, c, cutoff), api.OK
	if !finite(want) {
		want, wantErr = api.Mat{}, api.ErrOverflow
	}
	got, err := qr.Apply(y, tt, c, turned, cutoff)
	expect(t, what, got, err, want, wantErr)
	return wantErr
}

func TestApply(t *testing.T) {
	s := source(4)
	for _, turned := range []bool{false, true} {
		for _, x := range append(sides, [2]int{1, 3}, [2]int{2, 5}) {
			for _, cols := range []int{1, 2, 5} {
				for _, c := range []int{1, 2, 64} {
					holdApply(t, s.mat(x[0], x[1]), s.mat(x[1], x[1]), s.mat(x[0], cols), turned, c)
				}
			}
		}
		holdApply(t, s.mat(64, 64), s.mat(64, 64), s.mat(64, 64), turned, 16)
		// y, t, c of zeros and ones: c less what is reckoned, and zeros' signs.
		for _, word := range []uint64{0, sign, one, sign | one} {
			for _, other := range []uint64{0, sign, one} {
				holdApply(t, filled(3, 2, word), filled(2, 2, other), filled(3, 2, word), turned, 1)
			}
		}
		for _, c := range []int{1, 2, 64} {
			if holdApply(t, filled(2, 2, power(600)), filled(2, 2, power(600)), filled(2, 2, one), turned, c) != api.ErrOverflow {
				t.Error("P32.1: the test's product is finite")
			}
			if holdApply(t, mat(1, 1, one), mat(1, 1, two), mat(1, 1, sign|great), turned, c) != api.ErrOverflow {
				t.Error("P32.1: the test's product is finite")
			}
			if holdApply(t, mat(2, 1, one, sign|one), mat(1, 1, one), mat(2, 1, great, great), turned, c) != api.OK {
				t.Error("P32.1: the test's products are not finite")
			}
			if holdApply(t, mat(2, 1, one, one), mat(1, 1, sign|one), mat(2, 1, great, 0), turned, c) != api.ErrOverflow {
				t.Error("P32.1: the test's difference is finite")
			}
		}
	}
	// Turned t is another one.
	y, tt, c := unit(2), mat(2, 2, 0, one, 0, 0), mat(2, 1, of(3), of(5))
	for turned, want := range map[bool]api.Mat{false: mat(2, 1, of(-2), of(5)), true: mat(2, 1, of(3), of(2))} {
		got, err := qr.Apply(y, tt, c, turned, 1)
		expect(t, fmt.Sprintf("P32.1: Apply turned %v", turned), got, err, want, api.OK)
	}
	// It takes a matrix to its R.
	a := mat(2, 1, of(3), of(4))
	y, tt, _, _ = qr.Factor(a, 1)
	got, err := qr.Apply(y, tt, a, true, 1)
	expect(t, "P32.1: Apply of a mirror to its column", got, err, mat(2, 1, of(-5), 0), api.OK)
}

func TestApplyErrors(t *testing.T) {
	none := func(y, tt, c api.Mat, cutoff int, want api.Errno) {
		t.Helper()
		for _, turned := range []bool{false, true} {
			got, err := qr.Apply(y, tt, c, turned, cutoff)
			expect(t, fmt.Sprintf("P32.1: Apply of %d by %d, %d by %d, %d by %d, cutoff %d", y.Rows, y.Cols, tt.Rows, tt.Cols, c.Rows, c.Cols, cutoff), got, err, api.Mat{}, want)
		}
	}
	for _, f := range faults() {
		for _, good := range []api.Mat{mat(1, 1, one), filled(2, 2, great), filled(64, 64, 0)} {
			for _, c := range []int{1, 0} {
				none(f.a, good, good, c, f.err)
				none(good, f.a, good, c, f.err)
				none(good, good, f.a, c, f.err)
				none(good, f.a, filled(3, 3, inf), c, f.err)
				none(f.a, filled(3, 3, inf), mat(1, 1), c, f.err)
			}
		}
	}
	for _, x := range [][6]int{{3, 2, 2, 1, 3, 1}, {3, 2, 1, 2, 3, 1}, {3, 2, 3, 3, 3, 1}, {3, 2, 1, 1, 3, 1}, {3, 2, 2, 2, 2, 3}, {3, 2, 2, 2, 4, 3}, {3, 2, 2, 2, 2, 2}, {1, 1, 1, 1, 64, 1}, {64, 63, 64, 64, 64, 1}, {2, 3, 2, 2, 2, 1}} {
		for _, c := range []int{1, 0, -1} {
			none(filled(x[0], x[1], great), filled(x[2], x[3], great), filled(x[4], x[5], great), c, api.ErrShape)
		}
	}
	for _, c := range []int{0, -1, -64, math.MinInt} {
		none(filled(2, 1, great), filled(1, 1, great), filled(2, 1, great), c, api.ErrRange)
		none(filled(2, 1, 0), filled(1, 1, 0), filled(2, 1, 0), c, api.ErrRange)
	}
}

// P32.3: what is handed in isn't changed, and shares nothing with what is told,
// nor do Y, T and R.
func TestMemory(t *testing.T) {
	s := source(5)
	for _, x := range [][2]int{{1, 1}, {2, 1}, {3, 3}, {5, 4}} {
		for _, a := range []api.Mat{s.mat(x[0], x[1]), filled(x[0], x[1], 0), filled(x[0], x[1], one)} {
			for part := range 3 {
				holdMemory(t, "Factor", func(in [][]uint64) []uint64 {
					y, tt, r, _ := qr.Factor(mat(x[0], x[1], in[0]...), 1)
					return [][]uint64{y.Data, tt.Data, r.Data}[part]
				}, a.Data)
			}
			for _, turned := range []bool{false, true} {
				holdMemory(t, "Apply", func(in [][]uint64) []uint64 {
					got, _ := qr.Apply(mat(x[0], x[1], in[0]...), mat(x[1], x[1], in[1]...), mat(x[0], 2, in[2]...), turned, 1)
					return got.Data
				}, a.Data, s.mat(x[1], x[1]).Data, s.mat(x[0], 2).Data)
			}
			y, tt, r, _ := qr.Factor(a, 1)
			lists := [][]uint64{y.Data, tt.Data, r.Data}
			for i, l := range lists {
				told := slices.Clone(lists[(i+1)%3])
				for k := range l {
					l[k] = ^l[k]
				}
				if !slices.Equal(lists[(i+1)%3], told) {
					t.Error("P32.3: Y, T and R share words")
				}
			}
		}
	}
}
