package norm_test

import (
	"math"
	"slices"
	"testing"

	"vernier/api"
	"vernier/norm"
)

// call is one of the functions.
type call struct {
	name string
	of   func(a api.Mat) (uint64, api.Errno)
}

var (
	callMax  = call{"Max", norm.Max}
	callOne  = call{"One", norm.One}
	callInf  = call{"Inf", norm.Inf}
	callFrob = call{"Frob", norm.Frob}

	calls = []call{callMax, callOne, callInf, callFrob}
)

func (c call) hold(t *testing.T, a api.Mat, want uint64, wantErr api.Errno) {
	t.Helper()
	if got, err := c.of(a); got != want || err != wantErr {
		t.Errorf("P23.1: %s of %d by %d %#x = %#x, error %d; want %#x, error %d", c.name, a.Rows, a.Cols, a.Data, got, err, want, wantErr)
	}
}

// holdAll holds Max, One, Inf and Frob of one matrix.
func holdAll(t *testing.T, a api.Mat, most, one, inf, frob uint64) {
	t.Helper()
	callMax.hold(t, a, most, api.OK)
	callOne.hold(t, a, one, api.OK)
	callInf.hold(t, a, inf, api.OK)
	callFrob.hold(t, a, frob, api.OK)
}

func TestSmall(t *testing.T) {
	identity := mat(2, 2, one, 0, 0, one)
	holdAll(t, identity, one, one, one, two)                  // the chapter's example
	holdAll(t, mat(1, 1, one), one, one, one, one)            // Identity of 1
	holdAll(t, mat(1, 1, of(-3)), of(3), of(3), of(3), of(9)) // Frob is no root
	a := mat(2, 3, of(1), of(-2), of(3), of(-4), of(5), of(-6))
	holdAll(t, a, of(6), of(9), of(15), of(91))
	b := mat(3, 2, of(-6), of(5), of(-4), of(3), of(-2), of(1))
	holdAll(t, b, of(6), of(12), of(11), of(91))
	holdAll(t, mat(1, 3, of(1), of(-2), of(3)), of(3), of(3), of(6), of(14))
	holdAll(t, mat(3, 1, of(1), of(-2), of(3)), of(3), of(6), of(3), of(14))
	holdAll(t, filled(64, 64, sign|one), one, of(64), of(64), of(4096))
	holdAll(t, filled(64, 1, two), two, of(128), two, of(256))
	holdAll(t, filled(1, 64, two), two, two, of(128), of(256))
}

// P23.1: zeros of both signs are +0.
func TestZeros(t *testing.T) {
	for _, side := range [][2]int{{1, 1}, {1, 64}, {64, 1}, {3, 5}, {64, 64}} {
		holdAll(t, filled(side[0], side[1], 0), 0, 0, 0, 0)
		holdAll(t, filled(side[0], side[1], sign), 0, 0, 0, 0)
	}
	holdAll(t, mat(2, 2, sign, 0, 0, sign), 0, 0, 0, 0)
	holdAll(t, mat(1, 2, sign, sign|1), 1, 1, 1, 0) // the square is rounded to 0
}

// wanted is what Max, One, Inf and Frob are, reckoned by the machine.
func wanted(a api.Mat) [4]uint64 {
	columns, rows := make([]float64, a.Cols), make([]float64, a.Rows)
	most, squares := 0.0, 0.0
	for k, word := range a.Data {
		x := math.Float64frombits(word)
		most = max(most, math.Abs(x))
		columns[k%a.Cols] += math.Abs(x)
		rows[k/a.Cols] += math.Abs(x)
		squares += float64(x * x)
	}
	return [4]uint64{of(most), of(slices.Max(columns)), of(slices.Max(rows)), of(squares)}
}

func TestAsTheMachine(t *testing.T) {
	s := source(1)
	for _, side := range [][2]int{{1, 1}, {1, 2}, {2, 1}, {2, 2}, {3, 5}, {5, 3}, {1, 64}, {64, 1}, {63, 64}, {64, 63}, {64, 64}} {
		for range 10 {
			a := s.mat(side[0], side[1])
			w := wanted(a)
			holdAll(t, a, w[0], w[1], w[2], w[3])
			a = s.mixed(side[0], side[1])
			w = wanted(a)
			for i, c := range calls {
				if isFinite(w[i]) {
					c.hold(t, a, w[i], api.OK)
				} else {
					c.hold(t, a, 0, api.ErrOverflow)
				}
			}
		}
	}
}

// P23.1: the greatest one in the first and in the last row and column.
func TestGreatest(t *testing.T) {
	for _, side := range [][2]int{{2, 2}, {3, 5}, {5, 3}, {64, 64}, {1, 64}, {64, 1}} {
		rows, cols := side[0], side[1]
		for _, i := range []int{0, rows / 2, rows - 1} {
			for _, j := range []int{0, cols / 2, cols - 1} {
				for _, word := range []uint64{of(1000), of(-1000)} {
					a := with(filled(rows, cols, sign|one), i*cols+j, word)
					holdAll(t, a, of(1000), of(float64(999+rows)), of(float64(999+cols)), of(float64(1e6-1+rows*cols)))
				}
			}
		}
	}
	// The greatest number is not in the greatest column or row.
	holdAll(t, mat(3, 3, of(5), 0, 0, 0, of(2), of(4), 0, of(4), of(3)), of(5), of(7), of(7), of(70))
}

// P23.1: the order of adding, seen in the last bit: each from +0 on, from the
// first row or column on.
func TestOrder(t *testing.T) {
	h := power(-53)
	callOne.hold(t, mat(3, 1, one, h, h), one, api.OK)
	callOne.hold(t, mat(3, 1, h, h, one), one+1, api.OK)
	callOne.hold(t, mat(3, 2, one, h, h, h, h, one), one+1, api.OK)
	callOne.hold(t, mat(3, 2, one, one, h, h, h, h), one, api.OK)
	callInf.hold(t, mat(1, 3, one, h, h), one, api.OK)
	callInf.hold(t, mat(1, 3, h, h, one), one+1, api.OK)
	callInf.hold(t, mat(2, 3, one, h, h, h, sign|h, one), one+1, api.OK)
	callInf.hold(t, mat(2, 3, one, h, h, one, h, h), one, api.OK)
	callInf.hold(t, mat(1, 2, one+1, h), one+2, api.OK) // of two as near the even one
	q := power(-27)                                     // its square is a quarter of 1's last bit
	callFrob.hold(t, mat(1, 4, one, q, q, q), one, api.OK)
	callFrob.hold(t, mat(1, 4, q, q, q, one), one+1, api.OK)
	callFrob.hold(t, mat(4, 1, q, sign|q, q, one), one+1, api.OK)
	callFrob.hold(t, mat(2, 2, q, q, q, sign|one), one+1, api.OK)
	callFrob.hold(t, mat(2, 2, q, one, q, q), one, api.OK) // column by column it would be another
	callFrob.hold(t, mat(2, 4, q, q, q, one, q, q, q, q), one+1, api.OK)
	// Each square is rounded ahead, of two as near to the even one.
	callFrob.hold(t, mat(1, 1, of(1<<27-1)), of(1<<54-1<<28), api.OK)
	callFrob.hold(t, mat(1, 1, one+1), one+2, api.OK)
	callFrob.hold(t, mat(1, 2, power(-27), one+1), one+2, api.OK)
	callFrob.hold(t, mat(1, 2, one+1<<25, power(-27)), times(one+1<<25, one+1<<25), api.OK)
}

// P23.1: overflow of a column's or a row's sum, of a square, of all squares.
func TestOverflow(t *testing.T) {
	holdAll(t, mat(1, 1, power(511)), power(511), power(511), power(511), power(1022))
	g := mat(1, 1, sign|great)
	callMax.hold(t, g, great, api.OK)
	callOne.hold(t, g, great, api.OK)
	callInf.hold(t, g, great, api.OK)
	callFrob.hold(t, g, 0, api.ErrOverflow)
	callFrob.hold(t, mat(1, 2, one, power(512)), 0, api.ErrOverflow)
	callFrob.hold(t, mat(2, 1, power(511), power(511)), power(1023), api.OK)
	callFrob.hold(t, filled(2, 2, power(511)), 0, api.ErrOverflow)
	callFrob.hold(t, mat(1, 3, power(511), power(511), power(511)), of(0x3p1022), api.OK)
	for _, side := range [][2]int{{2, 2}, {3, 4}, {64, 64}} {
		rows, cols := side[0], side[1]
		for _, j := range []int{0, cols - 1} {
			a := with(with(filled(rows, cols, one), j, great), (rows-1)*cols+j, sign|great)
			callMax.hold(t, a, great, api.OK)
			callOne.hold(t, a, 0, api.ErrOverflow)
			callInf.hold(t, a, great, api.OK)
			callFrob.hold(t, a, 0, api.ErrOverflow)
		}
		for _, i := range []int{0, rows - 1} {
			a := with(with(filled(rows, cols, one), i*cols, sign|great), i*cols+cols-1, great)
			callMax.hold(t, a, great, api.OK)
			callOne.hold(t, a, great, api.OK)
			callInf.hold(t, a, 0, api.ErrOverflow)
			callFrob.hold(t, a, 0, api.ErrOverflow)
		}
	}
	callOne.hold(t, mat(2, 1, great, power(969)), great, api.OK)
	callOne.hold(t, mat(2, 1, great, power(970)), 0, api.ErrOverflow)
	callInf.hold(t, mat(1, 2, great, power(969)), great, api.OK)
	callInf.hold(t, mat(1, 2, great, power(970)), 0, api.ErrOverflow)
}

// P23.1: Finite's error.
func TestErrors(t *testing.T) {
	for _, f := range faults() {
		for _, c := range calls {
			c.hold(t, f.a, 0, f.err)
		}
	}
	// It goes ahead of overflow.
	for _, c := range calls {
		c.hold(t, mat(1, 3, great, great, api.NaN), 0, api.ErrInput)
		c.hold(t, mat(3, 1, great, great, inf), 0, api.ErrInput)
		c.hold(t, mat(3, 1, great, great), 0, api.ErrShape)
	}
}

// P23.2: what is handed in isn't changed, up to its capacity, and not kept.
func TestMemory(t *testing.T) {
	s := source(2)
	for _, c := range calls {
		data := s.row(9)
		kept := slices.Clone(data)
		a := mat(2, 3, data[:6]...)
		first, err := c.of(a)
		if !slices.Equal(data, kept) {
			t.Errorf("P23.2: %s changes its matrix", c.name)
		}
		clear(data)
		c.hold(t, a, 0, api.OK)
		c.hold(t, mat(2, 3, kept[:6]...), first, err)
	}
}
