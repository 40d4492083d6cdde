package winograd_test

import (
	"fmt"
	"math"
	"slices"
	"testing"

	"vernier/api"
	"vernier/arena"
	"vernier/winograd"
)

// far are ints that are no side of any matrix.
var far = []int{0, -1, -2, -64, 65, 66, 128, math.MinInt, math.MinInt + 1, math.MaxInt, math.MaxInt - 1, 1 << 32, 1<<32 + 1, -1 << 32, 1 << 62}

// needed is how many words a product takes, by the chapter's words.
func needed(m, k, n, c int) int {
	if m <= c || k <= c || n <= c {
		return 0
	}
	m, k, n = m/2, k/2, n/2
	return m*k + k*n + 2*m*n + needed(m, k, n, c)
}

// hold holds Product, and Mul with an arena of just Need words and of more, some
// of them lent, against what is wanted.
func hold(t *testing.T, a, b api.Mat, cutoff int, want api.Mat, wantErr api.Errno) {
	t.Helper()
	what := fmt.Sprintf("P26.1: the product of %d by %d and %d by %d, cutoff %d", a.Rows, a.Cols, b.Rows, b.Cols, cutoff)
	got, err := winograd.Product(a, b, cutoff)
	expect(t, what, got, err, want, wantErr)
	need := needed(a.Rows, a.Cols, b.Cols, max(cutoff, 1))
	for _, x := range [][2]int{{need, 0}, {need + 5, 5}, {need + 1000, 64}} {
		w := arena.New(x[0])
		w.Take(1, x[1])
		got, err := winograd.Mul(a, b, cutoff, w)
		expect(t, what, got, err, want, wantErr)
		if w.Mark() != x[1] {
			t.Errorf("%s: %d words of %d are not given back", what, w.Mark(), x[0])
		}
		if high := w.High(); high > x[1]+need || err == api.OK && high != x[1]+need {
			t.Errorf("%s: %d words were lent, Need %d", what, high-x[1], need)
		}
	}
}

// cutoffs are those that tell sides apart.
func cutoffs(sides ...int) []int {
	out := []int{1, 2, 64, math.MaxInt}
	for _, n := range sides {
		out = append(out, max(n-1, 1), n, n+1)
	}
	slices.Sort(out)
	return slices.Compact(out)
}

// P26.1: all sides, odd and even, with numbers whose order of adding is seen.
func TestProduct(t *testing.T) {
	s := source(1)
	sides := []int{1, 2, 3, 4, 5, 8}
	for _, m := range sides {
		for _, k := range sides {
			for _, n := range sides {
				a, b := s.mat(m, k), s.mat(k, n)
				for _, c := range cutoffs(m, k, n) {
					hold(t, a, b, c, seven(a, b, c), api.OK)
				}
			}
		}
	}
	for _, x := range [][4]int{{63, 63, 63, 7}, {64, 64, 64, 16}, {64, 63, 64, 3}, {63, 64, 64, 31}, {64, 64, 63, 32}, {17, 33, 9, 2}, {6, 14, 30, 1}, {64, 1, 64, 1}, {1, 64, 1, 1}} {
		a, b := s.mat(x[0], x[1]), s.mat(x[1], x[2])
		hold(t, a, b, x[3], seven(a, b, x[3]), api.OK)
	}
}

// P26.1: each sum and difference, each product and its place, seen by the signs
// of zeros and by the last bit.
func TestProductParts(t *testing.T) {
	hold(t, mat(2, 2, of(1), of(2), of(3), of(4)), mat(2, 2, of(5), of(6), of(7), of(8)), 1, mat(2, 2, of(19), of(22), of(43), of(50)), api.OK)
	s := source(2)
	pool := []uint64{0, sign, one, sign | one, power(-53), sign | power(-53), one + 1, sign | (one + 1), two, sign | two, power(53)}
	for range 3000 {
		a, b := filled(2+s.below(2), 2+s.below(2), 0), mat(0, 0)
		b = filled(a.Cols, 2+s.below(2), 0)
		for _, m := range []api.Mat{a, b} {
			for k := range m.Data {
				m.Data[k] = pool[s.below(len(pool))]
			}
		}
		got, err := winograd.Product(a, b, 1)
		expect(t, fmt.Sprintf("P26.1: Product of %#x and %#x", a.Data, b.Data), got, err, seven(a, b, 1), api.OK)
	}
	// Zeros of one sign alone.
	for _, x := range []uint64{0, sign} {
		for _, y := range []uint64{0, sign} {
			for _, n := range []int{1, 2, 3, 5} {
				a, b := filled(n, n, x), filled(n, n, y)
				hold(t, a, b, 1, seven(a, b, 1), api.OK)
				hold(t, a, b, n, product(a, b), api.OK)
			}
		}
	}
}

// P26.1: small whole numbers, whose product is exact, with any cutoff.
func TestProductExact(t *testing.T) {
	s := source(3)
	for _, x := range [][3]int{{2, 2, 2}, {3, 3, 3}, {5, 7, 6}, {16, 16, 16}, {33, 20, 41}, {63, 63, 63}} {
		a, b := s.smalls(x[0], x[1], 9), s.smalls(x[1], x[2], 9)
		want := product(a, b)
		for _, c := range []int{1, 2, 4, 8, 64} {
			got, err := winograd.Product(a, b, c)
			for k, word := range got.Data { // a 0 may come up with either sign
				if word == sign {
					got.Data[k] = 0
				}
			}
			expect(t, fmt.Sprintf("P26.1: Product of %v, whole numbers, cutoff %d", x, c), got, err, want, api.OK)
		}
	}
}

// P26.2: with a cutoff that is great enough it is the product as it stands.
func TestProductAsItStands(t *testing.T) {
	s := source(4)
	for _, x := range [][3]int{{1, 1, 1}, {2, 2, 2}, {3, 5, 4}, {5, 3, 4}, {4, 5, 3}, {64, 2, 64}, {63, 64, 8}} {
		a, b := s.mat(x[0], x[1]), s.mat(x[1], x[2])
		for _, c := range []int{min(x[0], x[1], x[2]), max(x[0], x[1], x[2]), 64, 65, math.MaxInt} {
			got, err := winograd.Product(a, b, c)
			expect(t, fmt.Sprintf("P26.2: Product of %v, cutoff %d", x, c), got, err, product(a, b), api.OK)
		}
	}
	// One below it is another one: 2^-53 is lost from 1 and taken from it.
	a, b := mat(2, 2, one, power(-53), power(-53), one), mat(2, 2, one, one, power(-53), one)
	if slices.Equal(seven(a, b, 1).Data, product(a, b).Data) {
		t.Error("P26.2: the test's numbers tell no difference")
	}
	hold(t, a, b, 1, seven(a, b, 1), api.OK)
	hold(t, a, b, 2, product(a, b), api.OK)
}

// P26.1: the errors, the first argument's first.
func TestProductErrors(t *testing.T) {
	for _, f := range faults() {
		for _, good := range []api.Mat{mat(1, 1, one), filled(2, 2, great), filled(64, 64, 0)} {
			for _, c := range []int{0, 1, 2, math.MinInt} {
				holdError(t, f.a, good, c, f.err)
				holdError(t, good, f.a, c, f.err)
			}
		}
		for _, g := range faults() {
			holdError(t, f.a, g.a, 1, f.err)
		}
	}
	for _, x := range [][4]int{{1, 2, 1, 2}, {2, 1, 2, 1}, {2, 2, 3, 2}, {3, 2, 3, 2}, {64, 63, 64, 64}, {64, 64, 63, 64}, {1, 1, 64, 64}} {
		for _, c := range []int{0, 1, math.MaxInt, math.MinInt} {
			holdError(t, filled(x[0], x[1], great), filled(x[2], x[3], great), c, api.ErrShape)
		}
	}
	for _, c := range []int{0, -1, -2, -64, math.MinInt, math.MinInt + 1} {
		for _, n := range []int{1, 2, 64} {
			holdError(t, filled(n, n, great), filled(n, n, great), c, api.ErrRange)
		}
	}
}

// holdError holds an error against those of Product, and of Mul with each arena:
// it goes ahead of the arena's.
func holdError(t *testing.T, a, b api.Mat, cutoff int, want api.Errno) {
	t.Helper()
	what := fmt.Sprintf("P26.1: the product of %d by %d and %d by %d, cutoff %d", a.Rows, a.Cols, b.Rows, b.Cols, cutoff)
	got, err := winograd.Product(a, b, cutoff)
	expect(t, what, got, err, api.Mat{}, want)
	for _, w := range []*arena.Arena{nil, {}, arena.New(0), arena.New(9)} {
		w.Take(1, 2)
		mark := w.Mark()
		got, err := winograd.Mul(a, b, cutoff, w)
		expect(t, what, got, err, api.Mat{}, want)
		if w.Mark() != mark || w.High() != mark {
			t.Errorf("%s: %d words of %d are lent", what, w.Mark(), w.High())
		}
	}
}

// P26.1: too few words, or nobody's; ahead of overflow.
func TestMulArena(t *testing.T) {
	s := source(5)
	for _, x := range [][4]int{{1, 1, 1, 1}, {2, 2, 2, 1}, {3, 3, 3, 1}, {5, 4, 7, 1}, {5, 4, 7, 2}, {2, 2, 2, 2}, {64, 64, 64, 9}} {
		need := needed(x[0], x[1], x[2], x[3])
		a, b := s.mat(x[0], x[1]), s.mat(x[1], x[2])
		want := seven(a, b, x[3])
		for _, huge := range []bool{false, true} {
			if huge {
				a.Data[0], b.Data[0] = great, great
			}
			for _, w := range []*arena.Arena{nil, {}, new(arena.Arena)} {
				got, err := winograd.Mul(a, b, x[3], w)
				expect(t, fmt.Sprintf("P26.1: Mul of %v with an arena that nobody made", x), got, err, api.Mat{}, api.ErrArena)
			}
			for _, lent := range []int{0, 1, 7} {
				w := arena.New(need + lent - 1)
				w.Take(1, lent)
				mark := w.Mark()
				if need == 0 {
					continue // there are none fewer
				}
				got, err := winograd.Mul(a, b, x[3], w)
				expect(t, fmt.Sprintf("P26.1: Mul of %v with one word too few", x), got, err, api.Mat{}, api.ErrArena)
				if w.Mark() != mark || w.High() != mark {
					t.Errorf("P26.1: Mul of %v with one word too few: %d words of %d are lent", x, w.Mark(), w.High())
				}
			}
		}
		a.Data[0], b.Data[0] = one, one
		want = seven(a, b, x[3])
		// What is lent already stays as it stands, and words that were written to
		// don't matter.
		w := arena.New(need + 9)
		v, _ := w.Take(3, 3)
		for _, words := range [][]uint64{w.Lend(v)} {
			for k := range words {
				words[k] = api.NaN
			}
		}
		for range 2 {
			got, err := winograd.Mul(a, b, x[3], w)
			expect(t, fmt.Sprintf("P26.1: Mul of %v with words that are lent", x), got, err, want, api.OK)
			if w.Mark() != 9 || w.High() != 9+need || w.Left() != need || !slices.Equal(w.Lend(v), slices.Repeat([]uint64{api.NaN}, 9)) {
				t.Errorf("P26.1: Mul of %v: %d words are lent, %d were, %d are left", x, w.Mark(), w.High(), w.Left())
			}
		}
	}
}

// P26.1: overflow on the way and in the end, at each place by itself.
func TestProductOverflow(t *testing.T) {
	hold(t, mat(1, 1, power(1000)), mat(1, 1, power(1000)), 1, api.Mat{}, api.ErrOverflow)
	// In one sum of a's alone: s1, s2, s4, s3; of b's: t1, t2, t4, t3.
	g, m := great, sign|great
	for _, a := range []api.Mat{mat(2, 2, 0, 0, g, g), mat(2, 2, m, 0, 0, g), mat(2, 2, g, g, 0, 0), mat(2, 2, g, 0, m, g)} {
		for _, c := range []int{1, 2} {
			want, wantErr := seven(a, filled(2, 2, 0), c), api.OK
			if c == 1 {
				want, wantErr = api.Mat{}, api.ErrOverflow
			}
			hold(t, a, filled(2, 2, 0), c, want, wantErr)
		}
	}
	for _, b := range []api.Mat{mat(2, 2, m, g, 0, 0), mat(2, 2, m, 0, 0, m), mat(2, 2, g, 0, m, 0), mat(2, 2, m, m, 0, g)} {
		for _, c := range []int{1, 2} {
			want, wantErr := seven(filled(2, 2, 0), b, c), api.OK
			if c == 1 {
				want, wantErr = api.Mat{}, api.ErrOverflow
			}
			hold(t, filled(2, 2, 0), b, c, want, wantErr)
		}
	}
	// In each of the seven products, and deeper down.
	for i := range 4 {
		for j := range 4 {
			a, b := with(filled(2, 2, 0), i, power(600)), with(filled(2, 2, 0), j, power(600))
			holdOver(t, a, b, 1)
			holdOver(t, a, b, 2)
			for _, n := range []int{4, 5, 7} {
				a, b := filled(n, n, 0), filled(n, n, one)
				a.Data[s4(i, n)], b.Data[s4(j, n)] = power(600), power(600)
				holdOver(t, a, b, 1)
				holdOver(t, a, b, n)
			}
		}
	}
	// In what is odd: the last column, the last row, the corner, a's last column.
	for _, n := range []int{3, 5} {
		for place := range n * n {
			row := with(filled(n, n, 0), place, power(600))
			for other := range n * n {
				holdOver(t, row, with(filled(n, n, 0), other, power(600)), 1)
			}
		}
	}
	// In the end alone: both products are finite, their sum is not.
	for _, n := range []int{2, 3, 5} {
		for place := range n * n {
			a, b := filled(n, n, 0), filled(n, n, 0)
			for k := range n {
				a.Data[place/n*n+k], b.Data[k*n+place%n] = power(1000), power(23)
			}
			holdOver(t, a, b, 1)
			holdOver(t, a, b, n)
		}
	}
}

// s4 is a place in that quarter of n by n.
func s4(quarter, n int) int { return quarter/2*(n/2)*n + quarter%2*(n/2) }

// holdOver holds a product against the chapter's words, finite or not.
func holdOver(t *testing.T, a, b api.Mat, cutoff int) {
	t.Helper()
	want := seven(a, b, cutoff)
	got, err := winograd.Product(a, b, cutoff)
	what := fmt.Sprintf("P26.1: the product of %#x and %#x, cutoff %d", a.Data, b.Data, cutoff)
	if slices.ContainsFunc(want.Data, func(x uint64) bool { return !isFinite(x) }) {
		expect(t, what, got, err, api.Mat{}, api.ErrOverflow)
		w := arena.New(1000)
		w.Take(2, 2)
		if _, err := winograd.Mul(a, b, cutoff, w); err != api.ErrOverflow || w.Mark() != 4 || w.High() > 4+needed(a.Rows, a.Cols, b.Cols, cutoff) {
			t.Errorf("%s: error %d, %d words are lent, %d were", what, err, w.Mark(), w.High())
		}
		return
	}
	expect(t, what, got, err, want, api.OK)
}

// P26.1: Need and Fast, of all sides, and of ints that are none.
func TestNeed(t *testing.T) {
	if got, err := winograd.Need(2, 2, 2, 1); got != 4 || err != api.OK {
		t.Errorf("P26.1: Need of 2, 2, 2, 1 = %d, %d", got, err)
	}
	if got, err := winograd.Need(5, 7, 6, 2); got != 2*3+3*3+2*2*3 || err != api.OK {
		t.Errorf("P26.1: Need of 5, 7, 6, 2 = %d, %d", got, err)
	}
	sides := []int{1, 2, 3, 4, 5, 8, 31, 63, 64}
	for _, m := range sides {
		for _, k := range sides {
			for _, n := range sides {
				for _, c := range cutoffs(m, k, n) {
					if got, err := winograd.Need(m, k, n, c); got != needed(m, k, n, c) || err != api.OK {
						t.Errorf("P26.1: Need(%d, %d, %d, %d) = %d, %d; want %d", m, k, n, c, got, err, needed(m, k, n, c))
					}
				}
			}
		}
	}
	for _, bad := range far {
		for _, x := range [][4]int{{bad, 2, 2, 1}, {2, bad, 2, 1}, {2, 2, bad, 1}, {bad, bad, bad, bad}, {bad, 64, 64, math.MaxInt}} {
			if got, err := winograd.Need(x[0], x[1], x[2], x[3]); got != 0 || err != api.ErrRange {
				t.Errorf("P26.1: Need(%v) = %d, %d", x, got, err)
			}
		}
		if bad < 1 {
			if got, err := winograd.Need(2, 2, 2, bad); got != 0 || err != api.ErrRange {
				t.Errorf("P26.1: Need with cutoff %d = %d, %d", bad, got, err)
			}
		}
	}
}

func TestFast(t *testing.T) {
	ints := append([]int{1, 2, 3, 63, 64}, far...)
	for _, m := range ints {
		for _, k := range ints {
			for _, n := range ints {
				for _, c := range ints {
					if got := winograd.Fast(m, k, n, c); got == (m <= c || k <= c || n <= c) {
						t.Errorf("P26.1: Fast(%d, %d, %d, %d) = %v", m, k, n, c, got)
					}
				}
			}
		}
	}
}

// P26.3: what is handed in isn't changed, and shares nothing with what is told.
func TestMemory(t *testing.T) {
	s := source(6)
	for _, n := range []int{1, 2, 3, 5} {
		for _, c := range []int{1, 64} {
			w := arena.New(1000)
			holdMemory(t, "Mul", func(in [][]uint64) []uint64 {
				got, _ := winograd.Mul(mat(n, n, in[0]...), mat(n, n, in[1]...), c, w)
				return got.Data
			}, s.mat(n, n).Data, s.mat(n, n).Data)
			holdMemory(t, "Product", func(in [][]uint64) []uint64 {
				got, _ := winograd.Product(mat(n, n, in[0]...), mat(n, n, in[1]...), c)
				return got.Data
			}, s.mat(n, n).Data, s.mat(n, n).Data)
			// What is told stands apart from the arena's words.
			a := s.mat(n, n)
			got, _ := winograd.Mul(a, a, c, w)
			told := slices.Clone(got.Data)
			for v, err := w.Take(1, 64); err == api.OK; v, err = w.Take(1, 64) {
				clear(w.Lend(v))
			}
			if !slices.Equal(got.Data, told) {
				t.Errorf("P26.3: Mul's answer stands in the arena")
			}
			w.Release(0)
		}
	}
}
