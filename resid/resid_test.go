package resid_test

import (
	"fmt"
	"math"
	"slices"
	"testing"

	"vernier/api"
	"vernier/resid"
)

var zero = api.Dyadic{}

// dyad is a number of one limb.
func dyad(abs uint64, exp int) api.Dyadic { return api.Dyadic{Abs: []uint64{abs}, Exp: exp} }

// kinds make matrices of numbers about 1, of any size, and of whole ones.
func kinds(s *source) []func(rows, cols int) api.Mat {
	return []func(rows, cols int) api.Mat{s.mat, s.wide, func(rows, cols int) api.Mat { return s.smalls(rows, cols, 9) }}
}

var sides = [][3]int{{1, 1, 1}, {1, 2, 1}, {2, 1, 2}, {1, 1, 2}, {2, 2, 2}, {3, 3, 3}, {2, 3, 4}, {8, 6, 5}, {5, 6, 8}}

func TestMax(t *testing.T) {
	hold := func(a api.Mat, want api.Dyadic, wantErr api.Errno) {
		t.Helper()
		got, err := resid.Max(a)
		holdDyadic(t, fmt.Sprintf("P35.1: Max of %d by %d", a.Rows, a.Cols), got, err, want, wantErr)
	}
	hold(mat(1, 1, of(-6)), dyad(3, 1), api.OK)
	hold(mat(1, 3, of(2), of(-6), of(5)), dyad(3, 1), api.OK)
	hold(mat(1, 3, of(2), of(-6), of(7)), dyad(7, 0), api.OK)
	hold(mat(2, 1, sign, 0), zero, api.OK)
	hold(mat(1, 2, 1, sign), dyad(1, -1074), api.OK)
	hold(mat(1, 2, 1, sign|great), dyad(1<<53-1, 971), api.OK)
	s := source(1)
	for _, make := range kinds(&s) {
		for _, x := range [][2]int{{1, 1}, {1, 5}, {5, 1}, {4, 3}, {64, 64}} {
			a := make(x[0], x[1])
			hold(a, exact(a).most(), api.OK)
			for _, at := range []int{0, len(a.Data) / 2, len(a.Data) - 1} {
				hold(with(a, at, sign|great), dyad(1<<53-1, 971), api.OK)
			}
		}
	}
	for _, f := range faults() {
		hold(f.a, zero, f.err)
	}
}

func TestTimes(t *testing.T) {
	hold := func(a, b api.Mat, want []api.Dyadic, wantErr api.Errno) {
		t.Helper()
		got, err := resid.Times(a, b)
		if !slices.EqualFunc(got, want, same) || err != wantErr {
			t.Errorf("P35.1: Times of %d by %d and %d by %d = %v, error %d; want %v, error %d", a.Rows, a.Cols, b.Rows, b.Cols, got, err, want, wantErr)
		}
	}
	hold(mat(2, 2, of(1), of(2), of(3), of(4)), mat(2, 2, of(5), of(6), of(7), of(-8)), []api.Dyadic{dyad(19, 0), {Neg: true, Abs: []uint64{5}, Exp: 1}, dyad(43, 0), {Neg: true, Abs: []uint64{7}, Exp: 1}}, api.OK)
	hold(mat(1, 2, one, one), mat(2, 1, one, sign|one), []api.Dyadic{zero}, api.OK)
	hold(mat(1, 1, sign), mat(1, 2, one, sign|one), []api.Dyadic{zero, zero}, api.OK)
	hold(mat(1, 2, great, 1), mat(2, 1, great, 1), []api.Dyadic{dyadicOf(sum(mul(exactly(great), exactly(great)), mul(exactly(1), exactly(1))))}, api.OK)
	// The longest sums of the greatest ones, and of the least.
	for _, x := range []uint64{great, 1, least} {
		square := mul(exactly(x), exactly(x))
		hold(filled(1, 64, x), filled(64, 1, x), []api.Dyadic{dyadicOf(mul(square, whole(64)))}, api.OK)
		hold(filled(1, 64, sign|x), filled(64, 1, x), []api.Dyadic{dyadicOf(mul(square, whole(-64)))}, api.OK)
		half := filled(1, 64, x)
		for k := range 32 {
			half.Data[2*k] |= sign
		}
		hold(half, filled(64, 1, x), []api.Dyadic{zero}, api.OK)
	}
	// 2^53 less 1 times 2^53 to each power: ones only, and one at the end makes it a
	// power of two, wherever that is.
	for _, from := range []int{-1074, -1073, -1050, -1022, -1000, -777, -64, 0, 11} {
		for _, x := range []uint64{0, sign} {
			run := mat(1, 19)
			for k := range 18 {
				run.Data = append(run.Data, x|of(math.Ldexp(1<<53-1, from+53*k)))
			}
			run.Data = append(run.Data, x|power(from))
			hold(run, filled(19, 1, one), []api.Dyadic{{Neg: x == sign, Abs: []uint64{1}, Exp: from + 18*53}}, api.OK)
		}
	}
	s := source(2)
	for _, x := range sides {
		for _, make := range kinds(&s) {
			for range 5 {
				a, b := make(x[0], x[1]), make(x[1], x[2])
				var want []api.Dyadic
				for _, word := range exact(a).times(exact(b)).data {
					want = append(want, dyadicOf(word))
				}
				hold(a, b, want, api.OK)
			}
		}
	}
	for _, f := range faults() {
		for _, g := range []api.Mat{mat(1, 1, one), filled(2, 2, great), filled(64, 64, 0)} {
			hold(f.a, g, nil, f.err)
			hold(g, f.a, nil, f.err)
		}
		for _, g := range faults() {
			hold(f.a, g.a, nil, f.err)
		}
	}
	for _, x := range [][4]int{{1, 2, 1, 2}, {2, 1, 2, 1}, {2, 2, 3, 2}, {3, 2, 3, 2}, {64, 63, 64, 64}} {
		hold(filled(x[0], x[1], one), filled(x[2], x[3], one), nil, api.ErrShape)
	}
}

func holdProduct(t *testing.T, a, b, c api.Mat, want api.Dyadic, wantErr api.Errno) {
	t.Helper()
	got, err := resid.Product(a, b, c)
	holdDyadic(t, fmt.Sprintf("P35.1: Product of %d by %d, %d by %d, %d by %d", a.Rows, a.Cols, b.Rows, b.Cols, c.Rows, c.Cols), got, err, want, wantErr)
}

func TestProduct(t *testing.T) {
	holdProduct(t, mat(1, 1, one), mat(1, 1, one), mat(1, 1, one), zero, api.OK)
	holdProduct(t, mat(1, 1, one), mat(1, 1, one), mat(1, 1, one+1), dyad(1, -52), api.OK)
	holdProduct(t, mat(1, 1, one), mat(1, 1, one), mat(1, 1, sign|one), dyad(1, 1), api.OK)
	// The square of 1 and 2^-52, rounded, is off by 2^-104.
	holdProduct(t, mat(1, 1, one+1), mat(1, 1, one+1), mat(1, 1, one+2), dyad(1, -104), api.OK)
	holdProduct(t, mat(1, 2, great, 1), mat(2, 1, great, 1), mat(1, 1, sign|great), dyadicOf(sum(exactly(great), mul(exactly(great), exactly(great)), mul(exactly(1), exactly(1)))), api.OK)
	holdProduct(t, mat(1, 1, sign), mat(1, 1, one), mat(1, 1, 0), zero, api.OK)
	s := source(3)
	for _, x := range sides {
		for _, make := range kinds(&s) {
			for range 5 {
				a, b, c := make(x[0], x[1]), make(x[1], x[2]), make(x[0], x[2])
				holdProduct(t, a, b, c, exact(c).less(exact(a).times(exact(b))).most(), api.OK)
				c = product(a, b)
				if !slices.ContainsFunc(c.Data, func(x uint64) bool { return !isFinite(x) }) {
					holdProduct(t, a, b, c, exact(c).less(exact(a).times(exact(b))).most(), api.OK)
				}
			}
		}
		// Exact ones, and one off at each place.
		a, b := s.smalls(x[0], x[1], 9), s.smalls(x[1], x[2], 9)
		c := product(a, b)
		holdProduct(t, a, b, c, zero, api.OK)
		for at := range c.Data {
			holdProduct(t, a, b, with(c, at, less(c.Data[at], of(0.75))), dyad(3, -2), api.OK)
		}
	}
}

func TestProductErrors(t *testing.T) {
	for _, f := range faults() {
		for _, good := range []api.Mat{mat(1, 1, one), filled(2, 2, great), filled(3, 64, 0)} {
			holdProduct(t, f.a, good, good, zero, f.err)
			holdProduct(t, good, f.a, good, zero, f.err)
			holdProduct(t, good, good, f.a, zero, f.err)
			holdProduct(t, good, f.a, filled(2, 2, inf), zero, f.err)
			holdProduct(t, f.a, filled(2, 2, inf), mat(1, 1), zero, f.err)
		}
	}
	for _, x := range [][6]int{{2, 3, 2, 4, 2, 4}, {2, 3, 4, 4, 2, 4}, {2, 3, 3, 4, 3, 4}, {2, 3, 3, 4, 1, 4}, {2, 3, 3, 4, 2, 3}, {2, 3, 3, 4, 2, 5}, {2, 3, 3, 4, 4, 2}, {1, 1, 2, 1, 1, 1}} {
		holdProduct(t, filled(x[0], x[1], one), filled(x[2], x[3], one), filled(x[4], x[5], one), zero, api.ErrShape)
	}
}

func holdLu(t *testing.T, a, f api.Mat, swaps []int, want api.Dyadic, wantErr api.Errno) {
	t.Helper()
	got, err := resid.Lu(a, f, swaps)
	holdDyadic(t, fmt.Sprintf("P35.1: Lu of %d by %d, %d by %d, %v", a.Rows, a.Cols, f.Rows, f.Cols, swaps), got, err, want, wantErr)
}

func TestLu(t *testing.T) {
	// 1 2, 4 6, its rows swapped: 4 6, 0.25 0.5.
	a, f := mat(2, 2, of(1), of(2), of(4), of(6)), mat(2, 2, of(4), of(6), of(0.25), of(0.5))
	holdLu(t, a, f, []int{1, 1}, zero, api.OK)
	holdLu(t, a, f, []int{1}, zero, api.OK)
	holdLu(t, a, f, nil, dyad(1, 2), api.OK)
	holdLu(t, a, f, []int{0, 1}, dyad(1, 2), api.OK)
	holdLu(t, mat(2, 2, one, one, one, one), mat(2, 2, one, one, one, 1), nil, dyad(1, -1074), api.OK)
	s := source(4)
	for _, x := range [][2]int{{1, 1}, {2, 1}, {2, 2}, {3, 3}, {5, 4}, {8, 6}} {
		for _, make := range kinds(&s) {
			for range 10 {
				a, f := make(x[0], x[1]), make(x[0], x[1])
				var swaps []int
				for range s.below(x[0] + 1) {
					swaps = append(swaps, s.below(x[0]))
				}
				u := halved(f, true, false)
				u = mat(x[1], x[1], u.Data[:x[1]*x[1]]...)
				want := exact(swapped(a, swaps)).less(exact(halved(f, false, true)).times(exact(u))).most()
				holdLu(t, a, f, swaps, want, api.OK)
			}
		}
	}
	for _, f := range faults() {
		for _, good := range []api.Mat{mat(1, 1, one), filled(2, 2, great), filled(2, 64, 0)} {
			for _, swaps := range [][]int{nil, {0}, {-1}} {
				holdLu(t, f.a, good, swaps, zero, f.err)
				holdLu(t, good, f.a, swaps, zero, f.err)
			}
		}
		holdLu(t, f.a, filled(2, 2, inf), nil, zero, f.err)
	}
	for _, x := range [][4]int{{2, 2, 3, 2}, {2, 2, 2, 1}, {3, 2, 2, 2}, {3, 2, 3, 1}, {2, 3, 2, 3}, {1, 2, 1, 2}, {3, 2, 2, 3}, {2, 2, 4, 1}} {
		for _, swaps := range [][]int{nil, {0}, {-1}, {0, 0, 0, 0, 0}} {
			holdLu(t, filled(x[0], x[1], one), filled(x[2], x[3], one), swaps, zero, api.ErrShape)
		}
	}
	for _, swaps := range [][]int{{2}, {-1}, {0, 2}, {0, -1}, {0, 1, 0}, {0, 1, 2}, {math.MaxInt}, {0, math.MinInt}, make([]int, 65), make([]int, 3)} {
		holdLu(t, a, f, swaps, zero, api.ErrRange)
	}
}

func TestChol(t *testing.T) {
	hold := func(a, l api.Mat, want api.Dyadic, wantErr api.Errno) {
		t.Helper()
		got, err := resid.Chol(a, l)
		holdDyadic(t, fmt.Sprintf("P35.1: Chol of %d by %d, %d by %d", a.Rows, a.Cols, l.Rows, l.Cols), got, err, want, wantErr)
	}
	hold(mat(1, 1, of(4)), mat(1, 1, of(2)), zero, api.OK)
	hold(mat(1, 1, of(4)), mat(1, 1, of(-2)), zero, api.OK)
	hold(mat(1, 1, of(4)), mat(1, 1, one), dyad(3, 0), api.OK)
	hold(mat(1, 1, two), mat(1, 1, of(math.Sqrt2)), dyadicOf(num().Abs(sum(exactly(sign|two), mul(exactly(of(math.Sqrt2)), exactly(of(math.Sqrt2)))))), api.OK)
	// All of l counts, above the diagonal, too.
	hold(filled(2, 2, one), mat(2, 2, one, of(3), one, 0), dyad(9, 0), api.OK)
	s := source(5)
	for _, n := range []int{1, 2, 3, 6, 8} {
		for _, make := range kinds(&s) {
			for range 5 {
				a, l := make(n, n), make(n, n)
				hold(a, l, exact(a).less(exact(l).times(exact(l).turned())).most(), api.OK)
			}
		}
		l := halved(s.smalls(n, n, 9), false, false)
		a := product(l, transposed(l))
		hold(a, l, zero, api.OK)
		for at := range a.Data {
			hold(with(a, at, plus(a.Data[at], two)), l, dyad(1, 1), api.OK)
		}
	}
	for _, f := range faults() {
		for _, good := range []api.Mat{mat(1, 1, one), filled(2, 2, great), filled(2, 64, 0)} {
			hold(f.a, good, zero, f.err)
			hold(good, f.a, zero, f.err)
		}
		hold(f.a, filled(2, 2, inf), zero, f.err)
	}
	for _, x := range [][4]int{{2, 2, 3, 3}, {3, 3, 2, 2}, {2, 3, 2, 2}, {3, 2, 2, 2}, {2, 3, 3, 3}, {3, 2, 3, 3}, {2, 2, 1, 2}, {1, 1, 64, 1}} {
		hold(filled(x[0], x[1], one), filled(x[2], x[3], one), zero, api.ErrShape)
	}
}

func holdQr(t *testing.T, a, y, tt, r api.Mat, want, wantQ api.Dyadic, wantErr api.Errno) {
	t.Helper()
	got, gotQ, err := resid.Qr(a, y, tt, r)
	what := fmt.Sprintf("P35.1: Qr of %d by %d, %d by %d, %d by %d, %d by %d", a.Rows, a.Cols, y.Rows, y.Cols, tt.Rows, tt.Cols, r.Rows, r.Cols)
	holdDyadic(t, what, got, err, want, wantErr)
	holdDyadic(t, what+", of Q", gotQ, err, wantQ, wantErr)
}

// mirrored is what Qr tells, by the chapter's words.
func mirrored(a, y, tt, r api.Mat) (api.Dyadic, api.Dyadic) {
	ones := exact(unit(a.Rows))
	q := ones.less(exact(y).times(exact(tt)).times(exact(y).turned()))
	below := filled(a.Rows, a.Cols, 0)
	copy(below.Data, r.Data)
	return exact(a).less(q.times(exact(below))).most(), q.turned().times(q).less(ones).most()
}

func TestQr(t *testing.T) {
	// Mirrors of whole numbers: 1 1 with 1, 1 1 1 1 with a half.
	ones := filled(2, 1, one)
	holdQr(t, mat(2, 1, 0, of(-5)), ones, mat(1, 1, one), mat(1, 1, of(5)), zero, zero, api.OK)
	holdQr(t, mat(2, 1, 0, of(-5)), ones, mat(1, 1, one), mat(1, 1, of(6)), dyad(1, 0), zero, api.OK)
	holdQr(t, mat(2, 1, 0, of(-5)), ones, mat(1, 1, two), mat(1, 1, of(5)), dyad(5, 0), dyad(1, 2), api.OK)
	holdQr(t, mat(4, 1, of(4), of(-4), of(-4), of(-4)), filled(4, 1, one), mat(1, 1, of(0.5)), mat(1, 1, of(8)), zero, zero, api.OK)
	holdQr(t, mat(1, 1, of(7)), mat(1, 1, one), mat(1, 1, 0), mat(1, 1, of(7)), zero, zero, api.OK)
	holdQr(t, mat(1, 1, of(7)), mat(1, 1, one), mat(1, 1, two), mat(1, 1, of(-7)), zero, zero, api.OK)
	holdQr(t, unit(3), filled(3, 3, 0), filled(3, 3, 0), unit(3), zero, zero, api.OK)
	s := source(6)
	for _, x := range [][2]int{{1, 1}, {2, 1}, {2, 2}, {3, 3}, {5, 2}, {8, 6}} {
		for _, make := range kinds(&s) {
			for range 4 {
				a, y, tt, r := make(x[0], x[1]), make(x[0], x[1]), make(x[1], x[1]), make(x[1], x[1])
				want, wantQ := mirrored(a, y, tt, r)
				holdQr(t, a, y, tt, r, want, wantQ, api.OK)
			}
		}
	}
}

func TestQrErrors(t *testing.T) {
	for _, f := range faults() {
		for _, good := range []api.Mat{mat(1, 1, one), filled(2, 2, great), filled(2, 64, 0)} {
			holdQr(t, f.a, good, good, good, zero, zero, f.err)
			holdQr(t, good, f.a, good, good, zero, zero, f.err)
			holdQr(t, good, good, f.a, good, zero, zero, f.err)
			holdQr(t, good, good, good, f.a, zero, zero, f.err)
		}
		bad := filled(2, 2, inf)
		holdQr(t, f.a, bad, bad, bad, zero, zero, f.err)
		holdQr(t, unit(2), f.a, bad, mat(0, 0), zero, zero, f.err)
		holdQr(t, unit(2), unit(2), f.a, bad, zero, zero, f.err)
	}
	for _, x := range [][8]int{
		{2, 3, 2, 3, 3, 3, 3, 3}, {3, 2, 2, 2, 2, 2, 2, 2}, {3, 2, 4, 2, 2, 2, 2, 2}, {3, 2, 3, 1, 2, 2, 2, 2}, {3, 2, 3, 3, 2, 2, 2, 2}, {3, 2, 2, 3, 2, 2, 2, 2},
		{3, 2, 3, 2, 3, 2, 2, 2}, {3, 2, 3, 2, 2, 3, 2, 2}, {3, 2, 3, 2, 1, 1, 2, 2}, {3, 2, 3, 2, 3, 3, 2, 2}, {3, 2, 3, 2, 2, 2, 3, 2}, {3, 2, 3, 2, 2, 2, 2, 1}, {3, 2, 3, 2, 2, 2, 1, 2}, {3, 2, 3, 2, 2, 2, 2, 3}, {1, 2, 1, 2, 2, 2, 2, 2},
	} {
		holdQr(t, filled(x[0], x[1], one), filled(x[2], x[3], one), filled(x[4], x[5], one), filled(x[6], x[7], one), zero, zero, api.ErrShape)
	}
}

// P35.2: what is handed in isn't changed, and shares nothing with what is told.
func TestMemory(t *testing.T) {
	for _, n := range []int{1, 2, 3} {
		a, b, c := filled(n, n, of(3)).Data, filled(n, n, of(5)).Data, filled(n, n, of(7)).Data
		for k, call := range []func(in [][]uint64) (api.Dyadic, api.Errno){
			func(in [][]uint64) (api.Dyadic, api.Errno) { return resid.Max(mat(n, n, in[0]...)) },
			func(in [][]uint64) (api.Dyadic, api.Errno) {
				return resid.Product(mat(n, n, in[0]...), mat(n, n, in[1]...), mat(n, n, in[2]...))
			},
			func(in [][]uint64) (api.Dyadic, api.Errno) {
				return resid.Lu(mat(n, n, in[0]...), mat(n, n, in[1]...), []int{n - 1})
			},
			func(in [][]uint64) (api.Dyadic, api.Errno) {
				return resid.Chol(mat(n, n, in[0]...), mat(n, n, in[1]...))
			},
			func(in [][]uint64) (api.Dyadic, api.Errno) {
				off, _, err := resid.Qr(mat(n, n, in[0]...), mat(n, n, in[1]...), mat(n, n, in[2]...), mat(n, n, in[0]...))
				return off, err
			},
			func(in [][]uint64) (api.Dyadic, api.Errno) {
				_, off, err := resid.Qr(mat(n, n, in[0]...), mat(n, n, in[1]...), mat(n, n, in[2]...), mat(n, n, in[0]...))
				return off, err
			},
			func(in [][]uint64) (api.Dyadic, api.Errno) {
				l, err := resid.Times(mat(n, n, in[0]...), mat(n, n, in[1]...))
				return l[n*n-1], err
			},
		} {
			holdMemory(t, fmt.Sprintf("call %d", k), func(in [][]uint64) []uint64 {
				got, _ := call(in)
				return got.Abs
			}, a, b, c)
		}
		// No two of Times' numbers share limbs.
		l, _ := resid.Times(filled(n, n, one), filled(n, n, of(3)))
		for k := range l {
			l[k].Abs[0] = uint64(k)
		}
		for k := range l {
			if l[k].Abs[0] != uint64(k) {
				t.Error("P35.2: Times' numbers share limbs")
			}
		}
		swaps := append(make([]int, 0, 4), 0)
		resid.Lu(filled(n, n, one), filled(n, n, one), swaps)
		if !slices.Equal(swaps[:4], make([]int, 4)) {
			t.Error("P35.2: Lu changes swaps")
		}
	}
}
