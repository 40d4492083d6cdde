package trirec_test

import (
	"fmt"
	"math"
	"testing"

	"vernier/api"
	"vernier/trirec"
)

// call is Lower or Upper, with what it is given.
type call struct {
	t      api.Mat
	upper  bool
	unit   bool
	b      api.Mat
	cutoff int
}

func (x call) tell() (api.Mat, api.Errno) {
	if x.upper {
		return trirec.Upper(x.t, x.unit, x.b, x.cutoff)
	}
	return trirec.Lower(x.t, x.unit, x.b, x.cutoff)
}

func (x call) hold(t *testing.T, want api.Mat, wantErr api.Errno) {
	t.Helper()
	got, err := x.tell()
	expect(t, fmt.Sprintf("P29.1: upper %v of %d by %d, unit %v, %d by %d, cutoff %d", x.upper, x.t.Rows, x.t.Cols, x.unit, x.b.Rows, x.b.Cols, x.cutoff), got, err, want, wantErr)
}

// each calls do for both triangles, unit and not.
func each(do func(upper, unit bool)) {
	for _, upper := range []bool{false, true} {
		for _, unit := range []bool{false, true} {
			do(upper, unit)
		}
	}
}

// P29.1: systems of all sides, against the chapter's words.
func TestSolve(t *testing.T) {
	l := mat(2, 2, of(2), of(9), of(3), of(4))
	call{l, false, false, mat(2, 1, of(4), of(14)), 1}.hold(t, mat(2, 1, of(2), of(2)), api.OK)
	call{l, false, true, mat(2, 1, of(4), of(14)), 1}.hold(t, mat(2, 1, of(4), of(2)), api.OK)
	call{l, true, false, mat(2, 1, of(20), of(8)), 1}.hold(t, mat(2, 1, of(1), of(2)), api.OK)
	call{l, true, true, mat(2, 1, of(20), of(2)), 1}.hold(t, mat(2, 1, of(2), of(2)), api.OK)
	s := source(1)
	for _, n := range []int{1, 2, 3, 4, 5, 8, 64} {
		for _, cols := range []int{1, 2, 3, 64} {
			each(func(upper, unit bool) {
				for _, c := range []int{1, 2, 3, n, 64, math.MaxInt} {
					if n*cols > 1000 && c != 3 && c != 64 {
						continue // they take long
					}
					x := call{s.triangle(n), upper, unit, s.mat(n, cols), c}
					x.hold(t, recursed(x.t, upper, unit, x.b, c), api.OK)
				}
			})
		}
	}
}

// P29.1: each block and its place, seen by zeros' signs and the last bit.
func TestSolveBits(t *testing.T) {
	s := source(2)
	pool := []uint64{0, sign, one, sign | one, power(-53), sign | power(-53), one + 1, sign | (one + 1), two, power(53)}
	for range 500 {
		each(func(upper, unit bool) {
			n, cols := 2+s.below(4), 1+s.below(3)
			x := call{filled(n, n, 0), upper, unit, filled(n, cols, 0), 1 + s.below(2)}
			for k := range x.t.Data {
				x.t.Data[k] = pool[s.below(len(pool))]
				if k%(n+1) == 0 {
					x.t.Data[k] = pool[2+s.below(4)]
				}
			}
			for k := range x.b.Data {
				x.b.Data[k] = pool[s.below(len(pool))]
			}
			x.hold(t, recursed(x.t, upper, unit, x.b, x.cutoff), api.OK)
		})
	}
	// The dot of 2^-53 twice is taken from 1 at once.
	u := power(-53)
	low := mat(4, 4, one, 0, 0, 0, 0, one, 0, 0, u, u, one, 0, u, u, 0, one)
	call{low, false, true, mat(4, 1, sign|one, sign|one, one, one), 4}.hold(t, mat(4, 1, sign|one, sign|one, one+1, one+1), api.OK)
	up := mat(4, 4, one, 0, u, u, 0, one, u, u, 0, 0, one, 0, 0, 0, 0, one)
	call{up, true, true, mat(4, 1, one, one, sign|one, sign|one), 4}.hold(t, mat(4, 1, one+1, one+1, sign|one, sign|one), api.OK)
}

// P29.1: with a great cutoff each column is solved by itself.
func TestSolveColumns(t *testing.T) {
	s := source(3)
	for _, n := range []int{2, 3, 5, 8, 20} {
		each(func(upper, unit bool) {
			x := call{s.triangle(n), upper, unit, s.mat(n, 4), 64}
			all, _ := x.tell()
			for j := range 4 {
				y := x
				y.b = cut(x.b, 0, j, n, 1)
				y.hold(t, cut(all, 0, j, n, 1), api.OK)
			}
		})
	}
}

// P29.1: the chapter's example: of Identity it is b; a right side of zeros.
func TestSolveIdentity(t *testing.T) {
	s := source(4)
	for _, n := range []int{1, 2, 3, 8, 64} {
		each(func(upper, unit1 bool) {
			b := s.mat(n, 3)
			for k, word := range b.Data {
				if word == sign {
					b.Data[k] = 0
				}
			}
			call{unit(n), upper, unit1, b, 16}.hold(t, b, api.OK)
			d := s.triangle(n)
			for _, zero := range []uint64{0, sign} {
				b := filled(n, 2, zero)
				call{d, upper, unit1, b, 1}.hold(t, recursed(d, upper, unit1, b, 1), api.OK)
			}
		})
	}
	call{mat(1, 1, sign|two), false, false, mat(1, 2, 0, sign), 1}.hold(t, mat(1, 2, sign, 0), api.OK)
}

// P29.1: what is not 0 in the half that does not count, and on a unit's
// diagonal, is of no matter; what is not finite there is ErrInput.
func TestSolveOtherHalf(t *testing.T) {
	s := source(5)
	for _, n := range []int{1, 2, 3, 6} {
		each(func(upper, unit bool) {
			x := call{s.triangle(n), upper, unit, s.mat(n, 2), 1}
			want := recursed(x.t, upper, unit, x.b, 1)
			for _, word := range []uint64{0, sign, great, sign | great, 1} {
				for k := range n * n {
					if i, j := k/n, k%n; (i < j && !upper) || (i > j && upper) || (i == j && unit) {
						x.t.Data[k] = word
					}
				}
				x.hold(t, want, api.OK)
			}
			for k := range n * n {
				for _, word := range lost {
					y := x
					y.t = with(x.t, k, word)
					y.hold(t, api.Mat{}, api.ErrInput)
				}
			}
		})
	}
}

// P29.1: a 0 on the diagonal, of either sign, at any place: behind the sides,
// ahead of the cutoff and of overflow.
func TestSolveZero(t *testing.T) {
	for _, n := range []int{1, 2, 3, 64} {
		for _, i := range []int{0, n / 2, n - 1} {
			for _, zero := range []uint64{0, sign} {
				for _, upper := range []bool{false, true} {
					d := with(unit(n), i*n+i, zero)
					for _, c := range []int{1, 64, 0, -1} {
						call{d, upper, false, filled(n, 2, one), c}.hold(t, api.Mat{}, api.ErrZero)
						call{d, upper, false, filled(n%64+1, 2, one), c}.hold(t, api.Mat{}, api.ErrShape)
						over := d
						for k := range n {
							if k != i {
								over = with(over, k*n+k, power(-1000))
							}
						}
						call{over, upper, false, filled(n, 2, great), c}.hold(t, api.Mat{}, api.ErrZero)
					}
					call{d, upper, true, filled(n, 2, one), 1}.hold(t, filled(n, 2, one), api.OK)
				}
			}
		}
	}
	call{mat(1, 1, 1), false, false, mat(1, 1, 1), 1}.hold(t, mat(1, 1, one), api.OK)
	call{mat(1, 1, sign|1), true, false, mat(1, 1, 1), 1}.hold(t, mat(1, 1, sign|one), api.OK)
}

// P29.1: the errors, the triangle's first.
func TestSolveErrors(t *testing.T) {
	each(func(upper, unit bool) {
		for _, c := range []int{1, 0} {
			for _, f := range faults() {
				for _, good := range []api.Mat{mat(1, 1, 0), filled(2, 2, great), filled(64, 64, 0), filled(2, 3, one)} {
					call{f.a, upper, unit, good, c}.hold(t, api.Mat{}, f.err)
					call{good, upper, unit, f.a, c}.hold(t, api.Mat{}, f.err)
				}
			}
			for _, d := range [][4]int{{1, 2, 1, 1}, {2, 1, 2, 1}, {2, 1, 1, 1}, {2, 3, 2, 2}, {3, 2, 3, 3}, {3, 2, 2, 2}, {2, 2, 1, 2}, {2, 2, 3, 2}, {1, 1, 2, 1}, {64, 64, 63, 64}, {63, 64, 63, 1}, {1, 1, 64, 1}} {
				call{filled(d[0], d[1], 0), upper, unit, filled(d[2], d[3], great), c}.hold(t, api.Mat{}, api.ErrShape)
			}
		}
		for _, c := range []int{0, -1, -64, math.MinInt} {
			for _, n := range []int{1, 2, 64} {
				call{filled(n, n, great), upper, unit, filled(n, 2, great), c}.hold(t, api.Mat{}, api.ErrRange)
				call{filled(n, n, power(-1000)), upper, unit, filled(n, 2, great), c}.hold(t, api.Mat{}, api.ErrRange)
			}
		}
	})
	for _, f := range faults() {
		for _, g := range faults() {
			call{f.a, false, false, g.a, 1}.hold(t, api.Mat{}, f.err)
			call{f.a, true, true, g.a, 0}.hold(t, api.Mat{}, f.err)
		}
	}
}

// P29.1: overflow in the first solution, in the product, in the difference, in
// the last solution, each of them alone.
func TestSolveOverflow(t *testing.T) {
	for _, n := range []int{1, 2, 3, 64} {
		for _, upper := range []bool{false, true} {
			for _, i := range []int{0, n / 2, n - 1} {
				for c := range 3 {
					b := with(filled(n, 3, one), 3*i+c, great)
					call{with(unit(n), i*n+i, power(-1)), upper, false, b, 16}.hold(t, api.Mat{}, api.ErrOverflow)
					call{with(unit(n), i*n+i, power(-1)), upper, true, b, 16}.hold(t, b, api.OK)
				}
			}
		}
	}
	for _, unit := range []bool{false, true} {
		for _, c := range []int{1, 2, 64} {
			// The product.
			call{mat(2, 2, one, 0, two, one), false, unit, mat(2, 1, great, great), c}.hold(t, api.Mat{}, api.ErrOverflow)
			call{mat(2, 2, one, two, 0, one), true, unit, mat(2, 1, great, great), c}.hold(t, api.Mat{}, api.ErrOverflow)
			// The difference.
			call{mat(2, 2, one, 0, sign|one, one), false, unit, mat(2, 1, great, great), c}.hold(t, api.Mat{}, api.ErrOverflow)
			call{mat(2, 2, one, sign|one, 0, one), true, unit, mat(2, 1, great, great), c}.hold(t, api.Mat{}, api.ErrOverflow)
			// A number that the triangle would divide down again.
			call{mat(2, 2, one, 0, sign|one, great), false, false, mat(2, 1, great, great), c}.hold(t, api.Mat{}, api.ErrOverflow)
			call{mat(2, 2, great, sign|one, 0, one), true, false, mat(2, 1, great, great), c}.hold(t, api.Mat{}, api.ErrOverflow)
		}
	}
	// A sum of blocks, by seven products alone.
	low := mat(4, 4, one, 0, 0, 0, 0, one, 0, 0, 0, 0, one, 0, great, great, 0, one)
	call{low, false, true, filled(4, 2, 0), 2}.hold(t, filled(4, 2, 0), api.OK)
	call{low, false, true, filled(4, 2, 0), 1}.hold(t, api.Mat{}, api.ErrOverflow)
	up := mat(4, 4, one, 0, 0, 0, 0, one, great, great, 0, 0, one, 0, 0, 0, 0, one)
	call{up, true, true, filled(4, 2, 0), 2}.hold(t, filled(4, 2, 0), api.OK)
	call{up, true, true, filled(4, 2, 0), 1}.hold(t, api.Mat{}, api.ErrOverflow)
}

// P29.2: what is left is within the bound, exactly.
func TestSolveBound(t *testing.T) {
	s := source(6)
	for _, n := range []int{1, 2, 3, 5, 8, 13} {
		for _, m := range []int{1, 2, 7} {
			each(func(upper, unit bool) {
				for _, c := range []int{1, 2, 64} {
					x := call{s.triangle(n), upper, unit, s.mat(n, m), c}
					got, err := x.tell()
					if err != api.OK {
						t.Errorf("P29.2: error %d", err)
						continue
					}
					half := halved(x.t, upper, unit)
					bound := triBound(n, m, upper, unit, c).value(largest(half), largest(got), true)
					if left := off(half, got, x.b); left.Cmp(bound) > 0 {
						t.Errorf("P29.2: n %d, m %d, upper %v, unit %v, cutoff %d: %.9g is left, bound %.9g", n, m, upper, unit, c, left, bound)
					}
				}
			})
		}
	}
}

// P29.3: what is handed in isn't changed, and shares nothing with what is told.
func TestMemory(t *testing.T) {
	s := source(7)
	for _, n := range []int{1, 2, 5} {
		each(func(upper, unit1 bool) {
			for _, d := range []api.Mat{s.triangle(n), unit(n)} {
				for _, b := range []api.Mat{s.mat(n, 3), filled(n, 3, 0)} {
					holdMemory(t, "Lower, Upper", func(in [][]uint64) []uint64 {
						got, _ := call{mat(n, n, in[0]...), upper, unit1, mat(n, 3, in[1]...), 1}.tell()
						return got.Data
					}, d.Data, b.Data)
				}
			}
		})
	}
}
