package cert_test

import (
	"fmt"
	"math"
	"math/big"
	"slices"
	"testing"

	"vernier/api"
	"vernier/cert"
)

// hold holds a report against how far it is off and may be.
func hold(t *testing.T, what string, got cert.Report, err api.Errno, off, far *big.Float) {
	t.Helper()
	want := cert.Report{Bound: dyadicOf(far), Off: dyadicOf(off), Holds: off.Cmp(far) <= 0}
	if err != api.OK || !same(got.Bound, want.Bound) || !same(got.Off, want.Off) || got.Holds != want.Holds {
		t.Errorf("P36.1: %s = %v, error %d; want %v", what, got, err, want)
	}
}

// holdError holds an error, with nothing beside it.
func holdError(t *testing.T, what string, got cert.Report, err, want api.Errno) {
	t.Helper()
	if err != want || got.Holds || !same(got.Bound, api.Dyadic{}) || !same(got.Off, api.Dyadic{}) {
		t.Errorf("P36.1: %s = %v, error %d; want error %d", what, got, err, want)
	}
}

// holds is P36.2: what is told holds.
func holds(t *testing.T, what string, got cert.Report) {
	t.Helper()
	if !got.Holds {
		t.Errorf("P36.2: %s does not hold: off %.9g, bound %.9g", what, float(got.Off), float(got.Bound))
	}
}

// changes are a, one number changed by one last bit, by much, by a sign.
func changes(s *source, a api.Mat) []api.Mat {
	at := s.below(len(a.Data))
	out := []api.Mat{with(a, at, a.Data[at]^1), with(a, at, a.Data[at]^sign), with(a, at, 0)}
	return append(out, with(a, at, of(1e9)), with(a, len(a.Data)-1, power(500)))
}

func holdProduct(t *testing.T, a, b, c api.Mat, cutoff int) cert.Report {
	t.Helper()
	got, err := cert.Product(a, b, c, cutoff)
	far := productBound(a.Rows, a.Cols, b.Cols, cutoff).reckoned(largest(a), largest(b), false)
	hold(t, fmt.Sprintf("Product of %d by %d and %d by %d, cutoff %d", a.Rows, a.Cols, b.Rows, b.Cols, cutoff), got, err, off(a, b, c), far)
	return got
}

// finite tells whether all of a's numbers are.
func finite(a api.Mat) bool {
	return !slices.ContainsFunc(a.Data, func(x uint64) bool { return !isFinite(x) })
}

// sized makes a matrix of numbers about 2^e, of finite ones.
func (s *source) sized(rows, cols, e int) api.Mat {
	out := s.mat(rows, cols)
	for k, word := range out.Data {
		for range 2 { // e may be beyond what one power tells
			word = times(word, power(e/2))
		}
		out.Data[k] = word
	}
	return out
}

// P36.1, P36.2: the chapter's example; products of all sizes, and others.
func TestProduct(t *testing.T) {
	ones := mat(1, 1, one)
	holds(t, "1 times 1", holdProduct(t, ones, ones, ones, 1))
	if holdProduct(t, ones, ones, mat(1, 1, two), 1).Holds || holdProduct(t, ones, ones, mat(1, 1, one+1), 1).Holds || !holdProduct(t, ones, ones, mat(1, 1, one-1), 1).Holds {
		t.Error("P36.1: 1 is 2 or 1 and 2^-52, or not 1 less 2^-53")
	}
	if !holdProduct(t, mat(1, 1, 1), mat(1, 1, 1), mat(1, 1, 0), 1).Holds || holdProduct(t, mat(1, 1, 1), mat(1, 1, 1), mat(1, 1, 1), 1).Holds {
		t.Error("P36.1: of the least numbers the product is not 0, or the least")
	}
	s := source(1)
	for _, x := range [][3]int{{1, 1, 1}, {2, 2, 2}, {3, 3, 3}, {5, 5, 5}, {8, 8, 8}, {1, 5, 2}, {5, 3, 8}, {7, 2, 3}, {5, 4, 1}, {1, 4, 5}, {4, 5, 2}} {
		for _, c := range []int{1, 2, 3, 64, math.MaxInt} {
			for _, e := range []int{0, -500, -1000, 400} {
				a, b := s.sized(x[0], x[1], e), s.sized(x[1], x[2], s.below(2)*e)
				p := seven(a, b, c)
				if !finite(p) {
					continue
				}
				holds(t, "a product", holdProduct(t, a, b, p, c))
				for _, other := range changes(&s, p) {
					holdProduct(t, a, b, other, c)
				}
			}
			zero := filled(x[0], x[1], sign)
			holds(t, "a product of zeros", holdProduct(t, zero, s.mat(x[1], x[2]), filled(x[0], x[2], 0), c))
		}
	}
}

func holdLu(t *testing.T, a, f api.Mat, swaps []int, cutoff int) cert.Report {
	t.Helper()
	got, err := cert.Lu(a, f, swaps, cutoff)
	l, u := halved(f, false, true), cut(halved(f, true, false), 0, 0, f.Cols, f.Cols)
	far := luBound(a.Rows, a.Cols, cutoff).reckoned(largest(l), largest(u), true)
	hold(t, fmt.Sprintf("Lu of %d by %d, swaps %v, cutoff %d", a.Rows, a.Cols, swaps, cutoff), got, err, off(l, u, swapped(a, swaps)), far)
	return got
}

func TestLu(t *testing.T) {
	s := source(2)
	for _, x := range [][2]int{{1, 1}, {2, 1}, {2, 2}, {3, 3}, {5, 5}, {8, 8}, {5, 3}, {8, 2}} {
		for _, c := range []int{1, 2, 64, math.MaxInt} {
			for _, e := range []int{0, -1000, 900} {
				a := s.sized(x[0], x[1], e)
				f, swaps, _ := factored(a, c)
				if !finite(f) {
					continue
				}
				holds(t, "two triangles", holdLu(t, a, f, swaps, c))
				for _, other := range changes(&s, f) {
					holdLu(t, a, other, swaps, c)
				}
				holdLu(t, a, f, swaps[:len(swaps)/2], c)
				holdLu(t, a, f, nil, c)
			}
			zero := filled(x[0], x[1], 0)
			holds(t, "two triangles of zeros", holdLu(t, zero, zero, nil, c))
		}
	}
	if holdLu(t, unit(2), unit(2), []int{1}, 1).Holds {
		t.Error("P36.1: Identity's rows in another order are still its triangles'")
	}
}

func holdChol(t *testing.T, a, l api.Mat, cutoff int) cert.Report {
	t.Helper()
	got, err := cert.Chol(a, l, cutoff)
	far := cholBound(a.Rows, cutoff).reckoned(largest(l), largest(l), true)
	hold(t, fmt.Sprintf("Chol of %d by %d, cutoff %d", a.Rows, a.Cols, cutoff), got, err, off(l, transposed(l), a), far)
	return got
}

func TestChol(t *testing.T) {
	s := source(3)
	for _, n := range []int{1, 2, 3, 5, 8} {
		for _, c := range []int{1, 2, 64, math.MaxInt} {
			for _, e := range []int{0, -1060, 900} {
				a := s.firm(n)
				for k, word := range a.Data {
					a.Data[k] = times(times(word, power(e/2)), power(e/2))
				}
				l, place, ok := squared(a, c)
				if !ok || place >= 0 {
					continue
				}
				holds(t, "a square's triangle", holdChol(t, a, l, c))
				for _, other := range changes(&s, l) {
					holdChol(t, a, other, c)
				}
				holdChol(t, s.mat(n, n), s.mat(n, n), c)
			}
			holds(t, "a square of zeros", holdChol(t, filled(n, n, 0), filled(n, n, 0), c))
		}
	}
}

// each calls do for both triangles, unit and not.
func each(do func(upper, unit bool)) {
	for _, upper := range []bool{false, true} {
		for _, unit := range []bool{false, true} {
			do(upper, unit)
		}
	}
}

// tell is what Lower or Upper tells.
func tell(a api.Mat, upper, unit bool, b, x api.Mat, cutoff int) (cert.Report, api.Errno) {
	if upper {
		return cert.Upper(a, unit, b, x, cutoff)
	}
	return cert.Lower(a, unit, b, x, cutoff)
}

func holdTri(t *testing.T, a api.Mat, upper, unit bool, b, x api.Mat, cutoff int) cert.Report {
	t.Helper()
	got, err := tell(a, upper, unit, b, x, cutoff)
	half := halved(a, upper, unit)
	far := triBound(a.Rows, b.Cols, upper, unit, cutoff).reckoned(largest(half), largest(x), true)
	hold(t, fmt.Sprintf("upper %v of %d by %d, unit %v, %d columns, cutoff %d", upper, a.Rows, a.Cols, unit, b.Cols, cutoff), got, err, off(half, x, b), far)
	return got
}

func TestTriangles(t *testing.T) {
	s := source(4)
	for _, n := range []int{1, 2, 3, 5, 8} {
		for _, m := range []int{1, 3} {
			for _, c := range []int{1, 2, 64, math.MaxInt} {
				each(func(upper, unit bool) {
					for _, e := range []int{0, -1000, 900} {
						a, b := s.triangle(n), s.sized(n, m, e)
						x := recursed(a, upper, unit, b, c)
						if !finite(x) {
							continue
						}
						holds(t, "a triangle's solution", holdTri(t, a, upper, unit, b, x, c))
						for _, other := range changes(&s, x) {
							holdTri(t, a, upper, unit, b, other, c)
						}
						// Numbers in the half that does not count.
						for k := range n * n {
							if i, j := k/n, k%n; (i < j && !upper) || (i > j && upper) || (i == j && unit) {
								a.Data[k] = []uint64{great, sign | great, 0, 1}[s.below(4)]
							}
						}
						holds(t, "a triangle's solution", holdTri(t, a, upper, unit, b, x, c))
					}
					zero := filled(n, m, 0)
					holds(t, "zeros", holdTri(t, filled(n, n, 0), upper, unit, zero, zero, c))
				})
			}
		}
	}
}

func holdSolve(t *testing.T, a, b, x, f api.Mat, swaps []int, y api.Mat, cutoff int) cert.Report {
	t.Helper()
	got, err := cert.Solve(a, b, x, f, swaps, y, cutoff)
	n := whole(a.Rows)
	l, u := halved(f, false, true), halved(f, true, false)
	far := triBound(a.Rows, b.Cols, false, true, cutoff).reckoned(largest(l), largest(y), true)
	far = sum(far, mul(n, largest(l), triBound(a.Rows, b.Cols, true, false, cutoff).reckoned(largest(u), largest(x), true)))
	far = sum(far, mul(n, luBound(a.Rows, a.Rows, cutoff).reckoned(largest(l), largest(u), true), largest(x)))
	hold(t, fmt.Sprintf("Solve of %d by %d, %d columns, swaps %v, cutoff %d", a.Rows, a.Cols, b.Cols, swaps, cutoff), got, err, off(a, x, b), far)
	return got
}

func TestSolve(t *testing.T) {
	s := source(5)
	for _, n := range []int{1, 2, 3, 5, 8} {
		for _, m := range []int{1, 3} {
			for _, c := range []int{1, 2, 64, math.MaxInt} {
				for _, e := range []int{0, -900, 700} {
					a, b := s.mat(n, n), s.sized(n, m, e)
					f, swaps, zero := factored(a, c)
					if zero >= 0 {
						continue
					}
					y := recursed(f, false, true, swapped(b, swaps), c)
					x := recursed(f, true, false, y, c)
					if !finite(f) || !finite(x) || !finite(y) {
						continue
					}
					holds(t, "a solution", holdSolve(t, a, b, x, f, swaps, y, c))
					for _, other := range changes(&s, x) {
						holdSolve(t, a, b, other, f, swaps, y, c)
					}
					// y, f and swaps tell the bound alone.
					for _, other := range changes(&s, y) {
						holdSolve(t, a, b, x, f, nil, other, c)
					}
					for _, other := range changes(&s, f) {
						holdSolve(t, a, b, x, other, swaps[:n-1], y, c)
					}
				}
				z := filled(n, m, 0)
				holds(t, "zeros", holdSolve(t, filled(n, n, 0), z, z, filled(n, n, 0), nil, z, c))
			}
		}
	}
}

// P36.1: numbers that are not finite in each argument, the first's first.
func TestFaults(t *testing.T) {
	good, bad := filled(2, 2, one), filled(2, 2, inf)
	for _, f := range faults() {
		for _, c := range []int{1, 0} {
			for k, l := range [][3]api.Mat{{f.a, bad, bad}, {good, f.a, bad}, {good, good, f.a}, {f.a, good, good}, {good, f.a, good}} {
				got, err := cert.Product(l[0], l[1], l[2], c)
				holdError(t, fmt.Sprintf("Product, fault %d", k), got, err, f.err)
				each(func(upper, unit bool) {
					got, err := tell(l[0], upper, unit, l[1], l[2], c)
					holdError(t, fmt.Sprintf("upper %v, fault %d", upper, k), got, err, f.err)
				})
			}
			for k, l := range [][2]api.Mat{{f.a, bad}, {good, f.a}, {f.a, good}} {
				got, err := cert.Lu(l[0], l[1], []int{-1}, c)
				holdError(t, fmt.Sprintf("Lu, fault %d", k), got, err, f.err)
				got, err = cert.Chol(l[0], l[1], c)
				holdError(t, fmt.Sprintf("Chol, fault %d", k), got, err, f.err)
			}
			for k := range 5 {
				l, clean := slices.Repeat([]api.Mat{bad}, 5), slices.Repeat([]api.Mat{good}, 5)
				copy(l, clean[:k])
				l[k], clean[k] = f.a, f.a
				for _, l := range [][]api.Mat{l, clean} {
					got, err := cert.Solve(l[0], l[1], l[2], l[3], []int{-1}, l[4], c)
					holdError(t, fmt.Sprintf("Solve, fault %d", k), got, err, f.err)
				}
			}
		}
	}
}

// P36.1: sides that do not go together, one by one; then swaps; then the cutoff.
func TestErrors(t *testing.T) {
	o := func(rows, cols int) api.Mat { return filled(rows, cols, one) }
	for _, c := range []int{1, 0} {
		for _, x := range [][6]int{{2, 3, 2, 4, 2, 4}, {2, 3, 3, 4, 3, 4}, {2, 3, 3, 4, 2, 3}, {2, 3, 3, 4, 4, 2}} {
			got, err := cert.Product(o(x[0], x[1]), o(x[2], x[3]), o(x[4], x[5]), c)
			holdError(t, fmt.Sprintf("Product of %v", x), got, err, api.ErrShape)
		}
		for _, x := range [][4]int{{2, 2, 3, 2}, {2, 2, 2, 1}, {3, 2, 2, 2}, {2, 3, 2, 3}} {
			got, err := cert.Lu(o(x[0], x[1]), o(x[2], x[3]), []int{-1}, c)
			holdError(t, fmt.Sprintf("Lu of %v", x), got, err, api.ErrShape)
		}
		for _, x := range [][4]int{{2, 2, 3, 3}, {2, 3, 2, 2}, {3, 2, 2, 2}} {
			got, err := cert.Chol(o(x[0], x[1]), o(x[2], x[3]), c)
			holdError(t, fmt.Sprintf("Chol of %v", x), got, err, api.ErrShape)
		}
		each(func(upper, unit bool) {
			for _, x := range [][6]int{{2, 3, 2, 1, 2, 1}, {3, 2, 3, 1, 3, 1}, {3, 2, 2, 1, 2, 1}, {2, 2, 3, 1, 2, 1}, {2, 2, 2, 1, 3, 1}, {2, 2, 2, 1, 2, 2}, {2, 2, 2, 2, 2, 1}, {2, 2, 1, 1, 1, 1}, {2, 2, 3, 1, 3, 1}} {
				got, err := tell(o(x[0], x[1]), upper, unit, o(x[2], x[3]), o(x[4], x[5]), c)
				holdError(t, fmt.Sprintf("upper %v of %v", upper, x), got, err, api.ErrShape)
			}
		})
		for _, x := range [][10]int{{2, 3, 2, 1, 2, 1, 2, 2, 2, 1}, {3, 2, 2, 1, 2, 1, 2, 2, 2, 1}, {3, 2, 3, 1, 3, 1, 3, 3, 3, 1}, {2, 2, 3, 1, 2, 1, 2, 2, 2, 1}, {2, 2, 2, 2, 2, 1, 2, 2, 2, 1}, {2, 2, 2, 1, 3, 1, 2, 2, 2, 1}, {2, 2, 2, 1, 2, 2, 2, 2, 2, 1}, {2, 2, 2, 1, 2, 1, 3, 2, 2, 1}, {2, 2, 2, 1, 2, 1, 2, 3, 2, 1}, {2, 2, 2, 1, 2, 1, 3, 3, 2, 1}, {2, 2, 2, 1, 2, 1, 2, 2, 3, 1}, {2, 2, 2, 1, 2, 1, 2, 2, 2, 2}} {
			got, err := cert.Solve(o(x[0], x[1]), o(x[2], x[3]), o(x[4], x[5]), o(x[6], x[7]), []int{-1}, o(x[8], x[9]), c)
			holdError(t, fmt.Sprintf("Solve of %v", x), got, err, api.ErrShape)
		}
		for _, swaps := range [][]int{{2}, {-1}, {0, 2}, {0, 1, 0}, {math.MaxInt}, {math.MinInt, 0}, make([]int, 65)} {
			got, err := cert.Lu(o(2, 2), o(2, 2), swaps, c)
			holdError(t, fmt.Sprintf("Lu with swaps %v", swaps), got, err, api.ErrRange)
			got, err = cert.Solve(o(2, 2), o(2, 1), o(2, 1), o(2, 2), swaps, o(2, 1), c)
			holdError(t, fmt.Sprintf("Solve with swaps %v", swaps), got, err, api.ErrRange)
		}
	}
	for _, c := range []int{0, -1, -64, math.MinInt} {
		for _, n := range []int{1, 2} {
			got, err := cert.Product(o(n, n), o(n, n), o(n, n), c)
			holdError(t, "Product", got, err, api.ErrRange)
			got, err = cert.Lu(o(n, n), o(n, n), nil, c)
			holdError(t, "Lu", got, err, api.ErrRange)
			got, err = cert.Chol(o(n, n), o(n, n), c)
			holdError(t, "Chol", got, err, api.ErrRange)
			each(func(upper, unit bool) {
				got, err := tell(o(n, n), upper, unit, o(n, 1), o(n, 1), c)
				holdError(t, "a triangle", got, err, api.ErrRange)
			})
			got, err = cert.Solve(o(n, n), o(n, 1), o(n, 1), o(n, n), nil, o(n, 1), c)
			holdError(t, "Solve", got, err, api.ErrRange)
		}
	}
}

// P36.3: what is handed in isn't changed, and shares nothing with what is told.
func TestMemory(t *testing.T) {
	a, b, c := filled(3, 3, of(3)).Data, filled(3, 3, of(5)).Data, filled(3, 3, of(7)).Data
	m := func(l []uint64) api.Mat { return mat(3, 3, l...) }
	for k, call := range []func(in [][]uint64) (cert.Report, api.Errno){
		func(in [][]uint64) (cert.Report, api.Errno) { return cert.Product(m(in[0]), m(in[1]), m(in[2]), 1) },
		func(in [][]uint64) (cert.Report, api.Errno) { return cert.Lu(m(in[0]), m(in[1]), []int{2}, 1) },
		func(in [][]uint64) (cert.Report, api.Errno) { return cert.Chol(m(in[0]), m(in[1]), 1) },
		func(in [][]uint64) (cert.Report, api.Errno) { return cert.Lower(m(in[0]), true, m(in[1]), m(in[2]), 1) },
		func(in [][]uint64) (cert.Report, api.Errno) {
			return cert.Upper(m(in[0]), false, m(in[1]), m(in[2]), 1)
		},
		func(in [][]uint64) (cert.Report, api.Errno) {
			return cert.Solve(m(in[0]), m(in[1]), m(in[2]), m(in[0]), []int{1, 1}, m(in[1]), 1)
		},
	} {
		for part := range 2 {
			holdMemory(t, fmt.Sprintf("call %d", k), func(in [][]uint64) []uint64 {
				got, _ := call(in)
				return [][]uint64{got.Bound.Abs, got.Off.Abs}[part]
			}, a, b, c)
		}
	}
	swaps := append(make([]int, 0, 4), 2)
	cert.Lu(m(a), m(b), swaps, 1)
	cert.Solve(m(a), m(b), m(c), m(a), swaps, m(b), 1)
	if !slices.Equal(swaps[:4], []int{2, 0, 0, 0}) {
		t.Error("P36.3: swaps are changed")
	}
}
