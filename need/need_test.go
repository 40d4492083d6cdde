package need_test

import (
	"math"
	"testing"

	"vernier/api"
	"vernier/need"
	"vernier/winograd"
)

// bad are ints that are no side of any matrix.
var bad = []int{0, -1, -2, -64, 65, 66, 128, math.MinInt, math.MinInt + 1, math.MaxInt, math.MaxInt - 1, 1 << 32, 1<<32 + 1, -1 << 32, 1 << 62}

// count is what a call tells, and its error.
type count struct {
	n   int
	err api.Errno
}

func told(n int, err api.Errno) count { return count{n, err} }

func hold(t *testing.T, what string, x []int, got count, want int, wantErr api.Errno) {
	t.Helper()
	if got != (count{want, wantErr}) {
		t.Errorf("P27.1: %s(%v) = %d, error %d; want %d, error %d", what, x, got.n, got.err, want, wantErr)
	}
}

// product, tri, lu and chol are the chapter's words, sides that may be.
func product(m, k, n, c int) int {
	if m <= c || k <= c || n <= c {
		return 0
	}
	m, k, n = m/2, k/2, n/2
	return m*k + k*n + 2*m*n + product(m, k, n, c)
}

func tri(n, m, c int) int {
	if n == 1 {
		return 0
	}
	n1 := n / 2
	return max(tri(n1, m, c), tri(n-n1, m, c), product(n-n1, n1, m, c))
}

func lu(m, n, c int) int {
	if n == 1 {
		return 0
	}
	n1 := n / 2
	return max(lu(m, n1, c), tri(n1, n-n1, c), product(m-n1, n1, n-n1, c), lu(m-n1, n-n1, c))
}

func chol(n, c int) int {
	if n == 1 {
		return 0
	}
	n1 := n / 2
	return max(chol(n1, c), tri(n1, n-n1, c), product(n-n1, n1, n-n1, c), chol(n-n1, c))
}

// counter goes through a product as 26's words say it, counting.
type counter struct{ muls, adds int }

func (x *counter) product(m, k, n, c int) {
	if m <= c || k <= c || n <= c {
		x.dots(m, k, n)
		return
	}
	m2, k2, n2 := m/2, k/2, n/2
	for range 7 {
		x.product(m2, k2, n2, c)
		x.adds += m2 * n2
	}
	for range 4 {
		x.adds += m2*k2 + k2*n2
	}
	if k%2 == 1 {
		x.dots(2*m2, 1, 2*n2)
	}
	if n%2 == 1 {
		x.dots(2*m2, k, 1)
	}
	if m%2 == 1 {
		x.dots(1, k, n)
	}
}

func (x *counter) dots(m, k, n int) {
	x.muls += m * k * n
	x.adds += m * k * n
}

// cutoffs are 1, each side, and those beside them.
func cutoffs(sides ...int) []int {
	out := []int{1, 2, 3, 64, math.MaxInt}
	for _, n := range sides {
		out = append(out, max(n-1, 1), n, n+1)
	}
	return out
}

// P27.1: counts that are reckoned by hand.
func TestByHand(t *testing.T) {
	for _, x := range []struct {
		m, k, n, c             int
		words, muls, additions int
	}{
		{1, 1, 1, 1, 0, 1, 1},
		{2, 2, 2, 1, 4, 7, 22},     // 7 of 1; 15 sums of 1
		{2, 2, 2, 2, 0, 8, 8},      //
		{3, 3, 3, 1, 4, 26, 41},    // 7 and 4, 6, 9; 7 and 15 and 4, 6, 9
		{3, 3, 3, 3, 0, 27, 27},    //
		{4, 4, 4, 1, 20, 49, 214},  // 7 times 22, 15 times 4
		{5, 7, 6, 1, 31, 185, 392}, // 7 times 17 and 24, 42; 7 times 32, 102 and 24, 42
		{5, 7, 6, 2, 27, 192, 294}, // 7 times 18 and 24, 42; 102
		{2, 3, 5, 1, 7, 28, 54},    // 7 times 2 and 8, 6; 26
	} {
		at := []int{x.m, x.k, x.n, x.c}
		hold(t, "Product", at, told(need.Product(x.m, x.k, x.n, x.c)), x.words, api.OK)
		hold(t, "Muls", at, told(need.Muls(x.m, x.k, x.n, x.c)), x.muls, api.OK)
		hold(t, "Adds", at, told(need.Adds(x.m, x.k, x.n, x.c)), x.additions, api.OK)
	}
	for _, x := range [][4]int{{1, 1, 1, 0}, {1, 64, 1, 0}, {2, 2, 1, 0}, {4, 4, 1, 7}, {5, 4, 1, 7}, {4, 4, 2, 0}, {6, 2, 1, 4}} {
		hold(t, "Tri", x[:3], told(need.Tri(x[0], x[1], x[2])), x[3], api.OK)
	}
	for _, x := range [][4]int{{1, 1, 1, 0}, {64, 1, 1, 0}, {2, 2, 1, 0}, {4, 4, 1, 4}, {6, 4, 1, 7}} {
		hold(t, "Lu", x[:3], told(need.Lu(x[0], x[1], x[2])), x[3], api.OK)
	}
	for _, x := range [][3]int{{1, 1, 0}, {2, 1, 0}, {3, 1, 0}, {4, 1, 4}, {4, 2, 0}, {8, 1, 20}, {8, 2, 16}} {
		hold(t, "Chol", x[:2], told(need.Chol(x[0], x[1])), x[2], api.OK)
	}
}

// P27.1: all sides up to 20, and the greatest ones.
func TestCounts(t *testing.T) {
	sides := []int{31, 32, 33, 62, 63, 64}
	for n := range 20 {
		sides = append(sides, n+1)
	}
	for _, m := range sides {
		for _, k := range sides {
			for _, n := range sides {
				for _, c := range cutoffs(m, k, n) {
					at := []int{m, k, n, c}
					words, err := winograd.Need(m, k, n, c)
					hold(t, "Product", at, told(need.Product(m, k, n, c)), words, err)
					var x counter
					x.product(m, k, n, c)
					hold(t, "Muls", at, told(need.Muls(m, k, n, c)), x.muls, api.OK)
					hold(t, "Adds", at, told(need.Adds(m, k, n, c)), x.adds, api.OK)
					// P27.2.
					if 3*words > m*k+k*n+2*m*n {
						t.Errorf("P27.2: Product(%v) = %d, more than a third", at, words)
					}
					if x.muls > m*k*n {
						t.Errorf("P27.2: Muls(%v) = %d, more than %d", at, x.muls, m*k*n)
					}
				}
			}
			for _, c := range cutoffs(m, k) {
				hold(t, "Tri", []int{m, k, c}, told(need.Tri(m, k, c)), tri(m, k, c), api.OK)
				if m >= k {
					hold(t, "Lu", []int{m, k, c}, told(need.Lu(m, k, c)), lu(m, k, c), api.OK)
				} else {
					hold(t, "Lu", []int{m, k, c}, told(need.Lu(m, k, c)), 0, api.ErrRange)
				}
			}
		}
		for _, c := range cutoffs(m) {
			hold(t, "Chol", []int{m, c}, told(need.Chol(m, c)), chol(m, c), api.OK)
		}
	}
}

// P27.1: the chapter's example.
func TestExample(t *testing.T) {
	hold(t, "Muls", []int{2, 2, 2, 1}, told(need.Muls(2, 2, 2, 1)), 7, api.OK)
}

// P27.1: sides that are none, one by one, and cutoffs.
func TestErrors(t *testing.T) {
	triples := map[string]func(m, k, n, cutoff int) (int, api.Errno){"Product": need.Product, "Muls": need.Muls, "Adds": need.Adds}
	for name, of := range triples {
		for _, x := range bad {
			for _, good := range []int{1, 2, 64} {
				for _, at := range [][]int{{x, good, good, 1}, {good, x, good, 1}, {good, good, x, 1}, {x, x, x, x}, {x, good, x, math.MaxInt}} {
					hold(t, name, at, told(of(at[0], at[1], at[2], at[3])), 0, api.ErrRange)
				}
				if x < 1 {
					hold(t, name, []int{good, good, good, x}, told(of(good, good, good, x)), 0, api.ErrRange)
				}
			}
		}
	}
	for name, of := range map[string]func(m, n, cutoff int) (int, api.Errno){"Tri": need.Tri, "Lu": need.Lu} {
		for _, x := range bad {
			for _, good := range []int{1, 2, 64} {
				for _, at := range [][]int{{x, good, 1}, {good, x, 1}, {x, x, 1}, {x, x, x}} {
					hold(t, name, at, told(of(at[0], at[1], at[2])), 0, api.ErrRange)
				}
				if x < 1 {
					hold(t, name, []int{good, good, x}, told(of(good, good, x)), 0, api.ErrRange)
				}
			}
		}
	}
	for _, x := range bad {
		hold(t, "Chol", []int{x, 1}, told(need.Chol(x, 1)), 0, api.ErrRange)
		hold(t, "Chol", []int{x, x}, told(need.Chol(x, x)), 0, api.ErrRange)
		if x < 1 {
			for _, n := range []int{1, 2, 64} {
				hold(t, "Chol", []int{n, x}, told(need.Chol(n, x)), 0, api.ErrRange)
			}
		}
	}
	for _, x := range [][2]int{{1, 2}, {63, 64}, {1, 64}} {
		hold(t, "Lu", []int{x[0], x[1], 1}, told(need.Lu(x[0], x[1], 1)), 0, api.ErrRange)
	}
}

// P27.3: calls keep nothing: each tells the same again, whatever was asked
// between.
func TestMemory(t *testing.T) {
	for range 2 {
		hold(t, "Lu", []int{6, 4, 1}, told(need.Lu(6, 4, 1)), 7, api.OK)
		hold(t, "Tri", []int{4, 4, 1}, told(need.Tri(4, 4, 1)), 7, api.OK)
		hold(t, "Chol", []int{8, 1}, told(need.Chol(8, 1)), 20, api.OK)
		hold(t, "Adds", []int{4, 4, 4, 1}, told(need.Adds(4, 4, 4, 1)), 214, api.OK)
		hold(t, "Muls", []int{0, 4, 4, 1}, told(need.Muls(0, 4, 4, 1)), 0, api.ErrRange)
	}
}
