package gemm_test

import (
	"fmt"
	"slices"
	"testing"

	"vernier/api"
	"vernier/gemm"
)

// triples are sides m, k, n of products.
var triples = [][3]int{{1, 1, 1}, {1, 2, 1}, {2, 1, 2}, {2, 2, 2}, {2, 3, 4}, {4, 3, 2}, {3, 3, 3}, {3, 4, 2}, {1, 64, 1}, {64, 1, 64}, {1, 1, 64}, {64, 1, 1}, {7, 64, 5}, {64, 64, 64}}

func holdMul(t *testing.T, a, b, want api.Mat, wantErr api.Errno) {
	t.Helper()
	got, err := gemm.Mul(a, b)
	expect(t, fmt.Sprintf("P21.1: Mul of %d by %d and %d by %d", a.Rows, a.Cols, b.Rows, b.Cols), got, err, want, wantErr)
}

func TestMul(t *testing.T) {
	holdMul(t, mat(2, 2, of(1), of(2), of(3), of(4)), mat(2, 2, of(5), of(6), of(7), of(8)), mat(2, 2, of(19), of(22), of(43), of(50)), api.OK)
	holdMul(t, mat(1, 2, of(1), of(2)), mat(2, 3, of(1), of(2), of(3), of(4), of(5), of(6)), mat(1, 3, of(9), of(12), of(15)), api.OK)
	s := source(1)
	for _, c := range triples {
		for range 3 {
			a, b := s.mat(c[0], c[1]), s.mat(c[1], c[2])
			holdMul(t, a, b, product(a, b), api.OK)
		}
	}
}

// P21.1: the chapter's example: a -0 becomes +0, all else stays.
func TestMulIdentity(t *testing.T) {
	s := source(2)
	for _, n := range []int{1, 2, 3, 64} {
		for _, cols := range []int{1, 3, 64} {
			a := s.mat(n, cols)
			want := mat(n, cols, slices.Clone(a.Data)...)
			for k, word := range want.Data {
				if word == sign {
					want.Data[k] = 0
				}
			}
			holdMul(t, unit(n), a, want, api.OK)
			holdMul(t, transposed(a), unit(n), transposed(want), api.OK)
		}
	}
	holdMul(t, mat(1, 1, sign), unit(1), mat(1, 1, 0), api.OK)
	holdMul(t, mat(1, 1, sign|one), mat(1, 1, 0), mat(1, 1, 0), api.OK)
	holdMul(t, mat(2, 2, sign, sign, 0, sign), mat(2, 2, one, 0, sign, one), filled(2, 2, 0), api.OK)
	holdMul(t, mat(1, 1, sign|1), mat(1, 1, 1), mat(1, 1, 0), api.OK)
}

// P21.1: the order of adding, and that each product is rounded.
func TestMulOrder(t *testing.T) {
	half := power(-53)
	ones := mat(3, 1, one, one, one)
	holdMul(t, mat(3, 3, one, half, half, half, one, half, half, half, one), ones, mat(3, 1, one, one, one+1), api.OK)
	holdMul(t, transposed(ones), mat(3, 3, one, half, half, half, one, half, half, half, one), mat(1, 3, one, one, one+1), api.OK)
	holdMul(t, mat(1, 2, sign|(one+2), one+1), mat(2, 1, one, one+1), mat(1, 1, 0), api.OK)
	holdMul(t, mat(1, 3, 1, 3, sign|5), mat(3, 1, power(-1), power(-1), power(-1)), mat(1, 1, 0), api.OK)
	holdMul(t, mat(1, 3, power(60), one, sign|power(60)), ones, mat(1, 1, 0), api.OK)
}

// P21.1: overflow at one place, and in between only.
func TestMulOverflow(t *testing.T) {
	for _, n := range []int{1, 2, 3, 64} {
		for _, place := range []int{0, n*n/2 + n/2, n*n - 1} {
			a, b := filled(n, n, 0), filled(n, n, 0)
			i, j := place/n, place%n
			a.Data[i*n+n-1], b.Data[(n-1)*n+j] = great, two
			holdMul(t, a, b, api.Mat{}, api.ErrOverflow)
			a.Data[i*n+n-1], b.Data[(n-1)*n+j] = power(1022), sign|two
			want := filled(n, n, 0)
			want.Data[place] = sign | power(1023)
			holdMul(t, a, b, want, api.OK)
		}
	}
	ones := mat(3, 1, one, one, one)
	holdMul(t, mat(1, 3, great, great, sign|great), ones, api.Mat{}, api.ErrOverflow)
	holdMul(t, mat(1, 3, great, sign|great, great), ones, mat(1, 1, great), api.OK)
	holdMul(t, mat(1, 2, great, sign|great), mat(2, 1, two, two), api.Mat{}, api.ErrOverflow)
	holdMul(t, mat(2, 1, one, great), mat(1, 1, great), api.Mat{}, api.ErrOverflow)
}

// P21.1: Finite's error, a's first; then sides that do not fit; then overflow.
func TestMulErrors(t *testing.T) {
	for _, f := range faults() {
		for _, good := range []api.Mat{mat(1, 1, great), filled(2, 2, great), filled(64, 64, great), filled(3, 5, one)} {
			holdMul(t, f.a, good, api.Mat{}, f.err)
			holdMul(t, good, f.a, api.Mat{}, f.err)
		}
		for _, g := range faults() {
			holdMul(t, f.a, g.a, api.Mat{}, f.err)
		}
	}
	for _, c := range [][4]int{{1, 1, 2, 1}, {1, 2, 1, 2}, {2, 3, 2, 3}, {3, 2, 3, 2}, {2, 3, 4, 2}, {64, 63, 64, 63}, {64, 64, 1, 64}, {1, 64, 63, 1}} {
		holdMul(t, filled(c[0], c[1], great), filled(c[2], c[3], great), api.Mat{}, api.ErrShape)
	}
}

// call is what Gemm is given.
type call struct {
	alpha uint64
	a     api.Mat
	ta    bool
	b     api.Mat
	tb    bool
	beta  uint64
	c     api.Mat
}

func (x call) hold(t *testing.T, want api.Mat, wantErr api.Errno) {
	t.Helper()
	got, err := gemm.Gemm(x.alpha, x.a, x.ta, x.b, x.tb, x.beta, x.c)
	what := fmt.Sprintf("P21.1: Gemm of %#x, %d by %d %v, %d by %d %v, %#x, %d by %d", x.alpha, x.a.Rows, x.a.Cols, x.ta, x.b.Rows, x.b.Cols, x.tb, x.beta, x.c.Rows, x.c.Cols)
	expect(t, what, got, err, want, wantErr)
}

// wanted is what x's numbers are, reckoned by the machine.
func (x call) wanted() api.Mat {
	a, b := x.a, x.b
	if x.ta {
		a = transposed(a)
	}
	if x.tb {
		b = transposed(b)
	}
	out := product(a, b)
	for k, word := range out.Data {
		out.Data[k] = plus(times(x.alpha, word), times(x.beta, x.c.Data[k]))
	}
	return out
}

func TestGemm(t *testing.T) {
	a, b, c := mat(2, 2, of(1), of(2), of(3), of(4)), mat(2, 2, of(5), of(6), of(7), of(8)), mat(2, 2, of(1), of(10), of(100), of(1000))
	call{two, a, false, b, false, of(3), c}.hold(t, mat(2, 2, of(41), of(74), of(386), of(3100)), api.OK)
	call{two, a, true, b, false, of(3), c}.hold(t, mat(2, 2, of(55), of(90), of(376), of(3088)), api.OK)
	call{two, a, false, b, true, of(3), c}.hold(t, mat(2, 2, of(37), of(76), of(378), of(3106)), api.OK)
	call{two, a, true, b, true, of(3), c}.hold(t, mat(2, 2, of(49), of(92), of(368), of(3092)), api.OK)
	s := source(3)
	for _, side := range triples {
		m, k, n := side[0], side[1], side[2]
		for ways := range 4 {
			x := call{s.near(5), s.mat(m, k), ways&1 == 1, s.mat(k, n), ways&2 == 2, s.near(5), s.mat(m, n)}
			if x.ta {
				x.a = s.mat(k, m)
			}
			if x.tb {
				x.b = s.mat(n, k)
			}
			x.hold(t, x.wanted(), api.OK)
			for _, word := range []uint64{0, sign, one, sign | one} {
				x.alpha = word
				x.hold(t, x.wanted(), api.OK)
				x.beta = word
				x.hold(t, x.wanted(), api.OK)
			}
		}
	}
}

// P21.1: zeros of both signs; what is rounded, and in which order.
func TestGemmWords(t *testing.T) {
	for _, alpha := range []uint64{0, sign, one, sign | one} {
		for _, beta := range []uint64{0, sign, one, sign | one} {
			for _, word := range []uint64{0, sign, one, sign | one} {
				x := call{alpha, mat(1, 1, word), false, mat(1, 1, one), false, beta, mat(1, 1, sign)}
				x.hold(t, x.wanted(), api.OK)
				x.c.Data[0] = 0
				x.hold(t, x.wanted(), api.OK)
			}
		}
	}
	call{one, mat(1, 1, one), false, mat(1, 1, one), false, sign | one, mat(1, 1, one)}.hold(t, mat(1, 1, 0), api.OK)
	call{sign | one, unit(1), false, mat(1, 1, 0), false, one, mat(1, 1, sign)}.hold(t, mat(1, 1, sign), api.OK)
	// Alpha times what is rounded, and beta's product, rounded, too.
	call{of(3), mat(1, 2, one, power(-53)), false, mat(2, 1, one, one), false, 0, mat(1, 1, one)}.hold(t, mat(1, 1, of(3)), api.OK)
	call{one, mat(1, 1, sign|(one+2)), false, mat(1, 1, one), false, one + 1, mat(1, 1, one+1)}.hold(t, mat(1, 1, 0), api.OK)
	call{one + 1, mat(1, 1, one+1), false, mat(1, 1, one), false, one, mat(1, 1, sign|(one+2))}.hold(t, mat(1, 1, 0), api.OK)
	call{power(-1), mat(1, 2, 1, 0), false, mat(2, 2, one, of(3), 0, 0), false, power(-1), mat(1, 2, 1, 3)}.hold(t, mat(1, 2, 0, 4), api.OK)
	call{one, mat(1, 1, power(-53)), false, mat(1, 1, one), false, one, mat(1, 1, one)}.hold(t, mat(1, 1, one), api.OK)
}

// P21.1: alpha and beta that are not finite go ahead of all; then the matrices,
// each one.
func TestGemmErrors(t *testing.T) {
	good := filled(2, 2, one)
	for _, word := range lost {
		call{word, good, false, good, false, one, good}.hold(t, api.Mat{}, api.ErrInput)
		call{one, good, false, good, false, word, good}.hold(t, api.Mat{}, api.ErrInput)
		call{word, filled(2, 3, great), false, good, true, word, filled(1, 1, one)}.hold(t, api.Mat{}, api.ErrInput)
		for _, f := range faults() {
			call{word, f.a, false, good, false, one, good}.hold(t, api.Mat{}, api.ErrInput)
			call{one, good, true, f.a, false, word, good}.hold(t, api.Mat{}, api.ErrInput)
			call{word, good, false, good, true, word, f.a}.hold(t, api.Mat{}, api.ErrInput)
			call{one, f.a, false, f.a, true, word, f.a}.hold(t, api.Mat{}, api.ErrInput)
		}
	}
	for _, f := range faults() {
		for ways := range 4 {
			ta, tb := ways&1 == 1, ways&2 == 2
			for _, x := range []api.Mat{good, filled(1, 3, great), filled(64, 64, great)} {
				call{one, f.a, ta, x, tb, one, good}.hold(t, api.Mat{}, f.err)
				call{one, x, ta, f.a, tb, one, good}.hold(t, api.Mat{}, f.err)
				call{one, good, ta, x, tb, one, f.a}.hold(t, api.Mat{}, f.err)
				call{0, good, ta, good, tb, 0, f.a}.hold(t, api.Mat{}, f.err)
			}
		}
		for _, g := range faults() {
			call{one, f.a, false, g.a, false, one, good}.hold(t, api.Mat{}, f.err)
			call{one, f.a, true, good, false, one, g.a}.hold(t, api.Mat{}, f.err)
			call{one, good, false, f.a, true, one, g.a}.hold(t, api.Mat{}, f.err)
		}
	}
}

// P21.1: shapes that fit only in one way of transposing; c of another shape.
func TestGemmShapes(t *testing.T) {
	sides := []int{1, 2, 3}
	for _, m := range sides {
		for _, k := range sides {
			for _, l := range sides {
				for _, n := range sides {
					for ways := range 4 {
						x := call{one, filled(m, k, one), ways&1 == 1, filled(l, n, one), ways&2 == 2, one, api.Mat{}}
						rows, inner, other, cols := m, k, l, n
						if x.ta {
							rows, inner = k, m
						}
						if x.tb {
							other, cols = n, l
						}
						for _, side := range [][2]int{{rows, cols}, {cols, rows}, {rows, cols + 1}, {rows + 1, cols}, {rows, inner}, {inner, cols}, {1, rows * cols}} {
							x.c = filled(side[0], side[1], two)
							if inner == other && side == [2]int{rows, cols} {
								x.hold(t, x.wanted(), api.OK)
							} else {
								x.hold(t, api.Mat{}, api.ErrShape)
							}
						}
					}
				}
			}
		}
	}
	// Shapes go ahead of overflow.
	call{great, filled(2, 2, great), false, filled(2, 2, great), false, great, filled(2, 3, great)}.hold(t, api.Mat{}, api.ErrShape)
	call{great, filled(2, 2, great), false, filled(2, 2, great), false, great, filled(3, 2, great)}.hold(t, api.Mat{}, api.ErrShape)
	call{great, filled(2, 3, great), false, filled(2, 3, great), false, great, filled(2, 3, great)}.hold(t, api.Mat{}, api.ErrShape)
}

// P21.1: overflow at one place, and in between only.
func TestGemmOverflow(t *testing.T) {
	g, o := mat(1, 1, great), mat(1, 1, one)
	call{two, g, false, o, false, 0, o}.hold(t, api.Mat{}, api.ErrOverflow)
	call{0, o, false, o, false, two, g}.hold(t, api.Mat{}, api.ErrOverflow)
	call{one, g, false, o, false, one, g}.hold(t, api.Mat{}, api.ErrOverflow)
	call{one, g, false, o, false, sign | one, g}.hold(t, mat(1, 1, 0), api.OK)
	call{two, g, false, o, false, sign | two, g}.hold(t, api.Mat{}, api.ErrOverflow)
	call{power(-1), g, false, mat(1, 1, two), false, 0, o}.hold(t, api.Mat{}, api.ErrOverflow)
	call{0, g, false, g, false, one, o}.hold(t, api.Mat{}, api.ErrOverflow) // 0 times what is infinite
	call{power(-1), g, false, o, false, power(-1), g}.hold(t, mat(1, 1, great), api.OK)
	for _, place := range []int{0, 4, 8} {
		c := filled(3, 3, one)
		c.Data[place] = great
		call{one, filled(3, 3, one), false, filled(3, 3, one), false, two, c}.hold(t, api.Mat{}, api.ErrOverflow)
		call{two, c, false, unit(3), true, one, filled(3, 3, one)}.hold(t, api.Mat{}, api.ErrOverflow)
	}
}

func TestSyrk(t *testing.T) {
	hold := func(a, want api.Mat, wantErr api.Errno) {
		t.Helper()
		got, err := gemm.Syrk(a)
		expect(t, fmt.Sprintf("P21.1: Syrk of %d by %d", a.Rows, a.Cols), got, err, want, wantErr)
	}
	hold(mat(2, 3, of(1), of(2), of(3), of(4), of(5), of(6)), mat(2, 2, of(14), of(32), of(32), of(77)), api.OK)
	hold(mat(1, 3, of(1), of(-2), of(3)), mat(1, 1, of(14)), api.OK)
	hold(mat(3, 1, of(1), of(-2), of(3)), mat(3, 3, of(1), of(-2), of(3), of(-2), of(4), of(-6), of(3), of(-6), of(9)), api.OK)
	hold(mat(2, 1, one, sign), mat(2, 2, one, 0, 0, 0), api.OK)
	s := source(4)
	for _, c := range triples {
		a := s.mat(c[0], c[1])
		hold(a, product(a, transposed(a)), api.OK)
	}
	for _, f := range faults() {
		hold(f.a, api.Mat{}, f.err)
	}
	hold(mat(1, 1, great), api.Mat{}, api.ErrOverflow)
	hold(mat(2, 1, power(512), sign|power(512)), api.Mat{}, api.ErrOverflow)
	hold(mat(2, 1, power(511), sign|power(511)), mat(2, 2, power(1022), sign|power(1022), sign|power(1022), power(1022)), api.OK)
	hold(mat(2, 2, one, one, one, great), api.Mat{}, api.ErrOverflow)
}

// P21.2: what is handed in isn't changed, and shares nothing with what is told.
func TestMemory(t *testing.T) {
	s := source(5)
	for _, n := range []int{1, 2, 3} {
		a, c := s.mat(n, n), s.mat(n, n)
		for _, b := range []api.Mat{s.mat(n, n), unit(n), filled(n, n, 0)} {
			holdMemory(t, "Mul", func(in [][]uint64) []uint64 {
				got, _ := gemm.Mul(mat(n, n, in[0]...), mat(n, n, in[1]...))
				return got.Data
			}, a.Data, b.Data)
			holdMemory(t, "Syrk", func(in [][]uint64) []uint64 {
				got, _ := gemm.Syrk(mat(n, n, in[0]...))
				return got.Data
			}, b.Data)
			for ways := range 4 {
				for _, alpha := range []uint64{0, one, two} {
					holdMemory(t, "Gemm", func(in [][]uint64) []uint64 {
						got, _ := gemm.Gemm(alpha, mat(n, n, in[0]...), ways&1 == 1, mat(n, n, in[1]...), ways&2 == 2, one, mat(n, n, in[2]...))
						return got.Data
					}, a.Data, b.Data, c.Data)
				}
			}
		}
	}
}
