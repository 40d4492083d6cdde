package vec_test

import (
	"slices"
	"testing"

	"vernier/api"
	"vernier/vec"
)

// holdRow holds a row and its error against those wanted.
func holdRow(t *testing.T, what string, got []uint64, err api.Errno, want []uint64, wantErr api.Errno) {
	t.Helper()
	if !slices.Equal(got, want) || err != wantErr {
		t.Errorf("P19.1: %s = %#x, error %d; want %#x, error %d", what, got, err, want, wantErr)
	}
}

func holdDot(t *testing.T, x, y []uint64, want uint64, wantErr api.Errno) {
	t.Helper()
	if got, err := vec.Dot(x, y); got != want || err != wantErr {
		t.Errorf("P19.1: Dot(%#x, %#x) = %#x, error %d; want %#x, error %d", x, y, got, err, want, wantErr)
	}
}

func holdAxpy(t *testing.T, a uint64, x, y, want []uint64, wantErr api.Errno) {
	t.Helper()
	got, err := vec.Axpy(a, x, y)
	holdRow(t, "Axpy", got, err, want, wantErr)
}

func holdScal(t *testing.T, a uint64, x, want []uint64, wantErr api.Errno) {
	t.Helper()
	got, err := vec.Scal(a, x)
	holdRow(t, "Scal", got, err, want, wantErr)
}

func holdAdd(t *testing.T, x, y, want []uint64, wantErr api.Errno) {
	t.Helper()
	got, err := vec.Add(x, y)
	holdRow(t, "Add", got, err, want, wantErr)
}

// list is numbers, just as they come.
func list(l ...uint64) []uint64 { return l }

// repeat is a n times.
func repeat(a uint64, n int) []uint64 { return slices.Repeat(list(a), n) }

// fault is a row that may not be, and Check's error of it.
type fault struct {
	row []uint64
	err api.Errno
}

// faults are rows that may not be.
func faults() []fault {
	out := []fault{{repeat(one, 65), api.ErrShape}, {repeat(0, 66), api.ErrShape}, {repeat(api.NaN, 65), api.ErrShape}, {repeat(inf, 1000), api.ErrShape}}
	for _, a := range lost {
		for _, row := range [][]uint64{{a}, {a, one, one}, {one, one, a}, append(repeat(one, 63), a), append(list(a), repeat(great, 63)...)} {
			out = append(out, fault{row, api.ErrInput})
		}
	}
	return out
}

func TestCheck(t *testing.T) {
	hold := func(x []uint64, want api.Errno) {
		t.Helper()
		if got := vec.Check(x); got != want {
			t.Errorf("P19.1: Check(%#x) = %d, want %d", x, got, want)
		}
	}
	hold(nil, api.OK)
	hold(list(), api.OK)
	for _, a := range []uint64{0, sign, 1, sign | 1, least - 1, least, one, great, sign | great} {
		hold(list(a), api.OK)
		hold(repeat(a, 63), api.OK)
		hold(repeat(a, 64), api.OK)
		hold(repeat(a, 65), api.ErrShape)
	}
	for _, x := range faults() {
		hold(x.row, x.err)
	}
}

func TestDot(t *testing.T) {
	holdDot(t, list(of(1), of(2)), list(of(3), of(4)), of(11), api.OK) // the chapter's example
	holdDot(t, nil, nil, 0, api.OK)
	holdDot(t, nil, list(), 0, api.OK)
	holdDot(t, list(two), list(of(-3)), of(-6), api.OK)
	holdDot(t, repeat(one, 64), repeat(two, 64), of(128), api.OK)
	// From +0 on: no sum of zeros is -0.
	for _, a := range []uint64{0, sign} {
		for _, b := range []uint64{0, sign, one, sign | one} {
			holdDot(t, list(a), list(b), 0, api.OK)
			holdDot(t, list(b), list(a), 0, api.OK)
			holdDot(t, list(a, a), list(b, b), 0, api.OK)
		}
	}
	holdDot(t, list(one, sign|one), list(one, one), 0, api.OK)
	holdDot(t, list(sign|1), list(1), 0, api.OK) // -0 is the product, rounded
}

// P19.1: the order of adding, and that the products are rounded first.
func TestDotOrder(t *testing.T) {
	half := power(-53)
	ones := repeat(one, 3)
	holdDot(t, list(one, half, half), ones, one, api.OK)
	holdDot(t, list(half, half, one), ones, one+1, api.OK)
	holdDot(t, list(half, one, half), ones, one, api.OK)
	holdDot(t, list(one+1, half, half), ones, one+2, api.OK)
	holdDot(t, list(power(60), one, sign|power(60)), ones, 0, api.OK)
	holdDot(t, list(power(60), sign|power(60), one), ones, one, api.OK)
	holdDot(t, list(one, power(60), sign|power(60)), ones, 0, api.OK)
	// The square of 1 and 2^-52 is rounded: 2^-104 is lost.
	holdDot(t, list(sign|(one+2), one+1), list(one, one+1), 0, api.OK)
	holdDot(t, list(one+1, sign|(one+2)), list(one+1, one), 0, api.OK)
	holdDot(t, list(sign|one, one+1), list(one, one-2), 0, api.OK)
	s := source(1)
	for range 3000 {
		n := s.below(65)
		x, y := s.row(n), s.row(n)
		want := uint64(0)
		for i := range x {
			want = plus(want, times(x[i], y[i]))
		}
		holdDot(t, x, y, want, api.OK)
	}
}

// P19.1: what is not finite at the end, and in between only.
func TestDotOverflow(t *testing.T) {
	holdDot(t, list(great), list(one), great, api.OK)
	holdDot(t, list(great), list(two), 0, api.ErrOverflow)
	holdDot(t, list(sign|great), list(two), 0, api.ErrOverflow)
	holdDot(t, list(great, great), list(one, one), 0, api.ErrOverflow)
	holdDot(t, list(great, power(969)), list(one, one), great, api.OK)
	holdDot(t, list(great, power(970)), list(one, one), 0, api.ErrOverflow)
	holdDot(t, list(great, sign|great), list(one, one), 0, api.OK)
	holdDot(t, list(great, great, sign|great), repeat(one, 3), 0, api.ErrOverflow)
	holdDot(t, list(great, sign|great, great), repeat(one, 3), great, api.OK)
	holdDot(t, list(great, sign|great), list(two, two), 0, api.ErrOverflow)
	holdDot(t, list(great, one), list(two, one), 0, api.ErrOverflow)
	holdDot(t, list(one, power(600)), list(one, power(600)), 0, api.ErrOverflow)
	holdDot(t, list(power(1000)), list(power(1000)), 0, api.ErrOverflow)
}

func TestAxpy(t *testing.T) {
	holdAxpy(t, two, list(of(1), of(2)), list(of(3), of(4)), list(of(5), of(8)), api.OK)
	holdAxpy(t, two, nil, list(), nil, api.OK)
	holdAxpy(t, sign|one, list(one), list(one), list(0), api.OK)
	// Zeros of both signs.
	holdAxpy(t, one, list(sign, sign, 0, 0), list(sign, 0, sign, 0), list(sign, 0, 0, 0), api.OK)
	holdAxpy(t, sign|one, list(sign, sign, 0, 0), list(sign, 0, sign, 0), list(0, 0, sign, 0), api.OK)
	holdAxpy(t, 0, list(sign|one, one), list(sign, sign), list(sign, 0), api.OK)
	// The product is rounded, then the sum.
	holdAxpy(t, one+1, list(one+1), list(sign|(one+2)), list(0), api.OK)
	s := source(2)
	for range 2000 {
		n := s.below(65)
		a, x, y := s.near(20), s.row(n), s.row(n)
		want := []uint64{}
		for i := range x {
			want = append(want, plus(y[i], times(a, x[i])))
		}
		holdAxpy(t, a, x, y, want, api.OK)
	}
}

func TestScal(t *testing.T) {
	holdScal(t, two, list(of(1), of(-2.5)), list(of(2), of(-5)), api.OK)
	holdScal(t, two, nil, nil, api.OK)
	holdScal(t, two, list(), nil, api.OK)
	holdScal(t, sign|one, list(0, sign, one), list(sign, 0, sign|one), api.OK)
	holdScal(t, 0, list(0, sign, sign|one), list(0, sign, sign), api.OK)
	holdScal(t, power(-1), list(1, 3), list(0, 2), api.OK)
	s := source(3)
	for range 2000 {
		a, x := s.near(20), s.row(s.below(65))
		want := []uint64{}
		for i := range x {
			want = append(want, times(a, x[i]))
		}
		holdScal(t, a, x, want, api.OK)
	}
}

func TestAdd(t *testing.T) {
	holdAdd(t, list(of(1), of(2)), list(of(3), of(-4)), list(of(4), of(-2)), api.OK)
	holdAdd(t, nil, list(), nil, api.OK)
	holdAdd(t, list(0, 0, sign, sign), list(0, sign, 0, sign), list(0, 0, 0, sign), api.OK)
	holdAdd(t, list(one, one+1), list(power(-53), power(-53)), list(one, one+2), api.OK)
	s := source(4)
	for range 2000 {
		n := s.below(65)
		x, y := s.row(n), s.row(n)
		want := []uint64{}
		for i := range x {
			want = append(want, plus(x[i], y[i]))
		}
		holdAdd(t, x, y, want, api.OK)
	}
}

// P19.1: a number that would be told is not finite, at any place.
func TestOverflow(t *testing.T) {
	for _, n := range []int{1, 2, 64} {
		for _, place := range []int{0, n / 2, n - 1} {
			x, y := repeat(one, n), repeat(one, n)
			x[place], y[place] = great, great
			holdAdd(t, x, y, nil, api.ErrOverflow)
			holdAxpy(t, one, x, y, nil, api.ErrOverflow)
			holdAxpy(t, two, x, repeat(one, n), nil, api.ErrOverflow)
			holdScal(t, two, x, nil, api.ErrOverflow)
			holdScal(t, sign|two, x, nil, api.ErrOverflow)
			y[place] |= sign
			want := repeat(two, n)
			want[place] = 0
			holdAdd(t, x, y, want, api.OK)
			holdAxpy(t, two, x, y, nil, api.ErrOverflow) // in between only
			want = repeat(one, n)
			want[place] = great
			holdScal(t, one, x, want, api.OK)
		}
	}
	holdAxpy(t, one, list(great), list(power(969)), list(great), api.OK)
	holdAxpy(t, one, list(great), list(power(970)), nil, api.ErrOverflow)
	holdScal(t, power(-1074), list(great), list(times(power(-1074), great)), api.OK)
}

// P19.1: Check's errors, the first argument's first.
func TestErrorsOfRows(t *testing.T) {
	for _, x := range faults() {
		for _, good := range [][]uint64{nil, list(one), repeat(one, min(len(x.row), 64))} {
			holdDot(t, x.row, good, 0, x.err)
			holdDot(t, good, x.row, 0, x.err)
			holdAdd(t, x.row, good, nil, x.err)
			holdAdd(t, good, x.row, nil, x.err)
			for _, a := range append(list(one, 0), lost...) {
				holdAxpy(t, a, x.row, good, nil, x.err)
				holdAxpy(t, a, good, x.row, nil, x.err)
				holdScal(t, a, x.row, nil, x.err)
			}
		}
		for _, y := range faults() {
			holdDot(t, x.row, y.row, 0, x.err)
			holdAdd(t, x.row, y.row, nil, x.err)
			holdAxpy(t, one, x.row, y.row, nil, x.err)
			holdAxpy(t, inf, x.row, y.row, nil, x.err)
		}
	}
}

// P19.1: a that is not finite goes behind the rows, ahead of their lengths.
func TestErrorsOfNumbers(t *testing.T) {
	for _, a := range lost {
		for _, n := range []int{0, 1, 64} {
			holdAxpy(t, a, repeat(one, n), repeat(one, n), nil, api.ErrInput)
			holdAxpy(t, a, repeat(one, n), list(one, one), nil, api.ErrInput)
			holdAxpy(t, a, list(one, one), repeat(one, n), nil, api.ErrInput)
			holdScal(t, a, repeat(one, n), nil, api.ErrInput)
			holdScal(t, a, repeat(0, n), nil, api.ErrInput)
		}
	}
	for _, n := range [][2]int{{0, 1}, {1, 0}, {1, 2}, {2, 1}, {63, 64}, {64, 63}, {64, 0}} {
		for _, a := range []uint64{0, one, great} { // lengths go ahead of overflow
			holdDot(t, repeat(a, n[0]), repeat(great, n[1]), 0, api.ErrShape)
			holdAdd(t, repeat(a, n[0]), repeat(great, n[1]), nil, api.ErrShape)
			holdAxpy(t, a, repeat(great, n[0]), repeat(great, n[1]), nil, api.ErrShape)
		}
	}
}

func holdLargest(t *testing.T, x []uint64, place int, farthest uint64) {
	t.Helper()
	if got, size := vec.Largest(x); got != place || size != farthest {
		t.Errorf("P19.1: Largest(%#x) = %d, %#x; want %d, %#x", x, got, size, place, farthest)
	}
}

func TestLargest(t *testing.T) {
	holdLargest(t, nil, -1, 0)
	holdLargest(t, list(), -1, 0)
	holdLargest(t, list(0), 0, 0)
	holdLargest(t, list(sign), 0, 0)
	holdLargest(t, list(sign, 0, sign), 0, 0)
	holdLargest(t, list(sign|1), 0, 1)
	holdLargest(t, list(0, sign|1), 1, 1)
	holdLargest(t, list(one, sign|two, one), 1, two)
	holdLargest(t, list(one, sign|two, two), 1, two)
	holdLargest(t, list(two, sign|two, one), 0, two)
	holdLargest(t, list(sign|one, one), 0, one)
	holdLargest(t, list(one, one, one+1, one+1), 2, one+1)
	holdLargest(t, list(great, inf), 1, inf)
	holdLargest(t, list(great, sign|inf, inf), 1, inf)
	holdLargest(t, list(inf, great), 0, inf)
	holdLargest(t, list(sign|great, least, great-1), 0, great)
	for _, nan := range lost {
		if !isNaN(nan) {
			continue
		}
		holdLargest(t, list(nan), -1, 0)
		holdLargest(t, list(nan, nan, nan), -1, 0)
		holdLargest(t, list(nan, sign), 1, 0)
		holdLargest(t, list(nan, 0, sign|one, nan), 2, one)
		holdLargest(t, list(one, nan), 0, one)
		holdLargest(t, list(nan, sign|inf, nan, inf), 1, inf)
		holdLargest(t, append(repeat(nan, 64), two), 64, two)
	}
	// No error is told of rows that are too long.
	holdLargest(t, append(repeat(one, 99), two, one), 99, two)
}

// P19.2: what is handed in isn't changed, and shares nothing with what is told.
func TestMemory(t *testing.T) {
	s := source(5)
	for _, n := range []int{1, 2, 64} {
		x, y := s.row(n), s.row(n)
		for _, a := range []uint64{one, two, 0} {
			holdMemory(t, "Axpy", func(in [][]uint64) []uint64 {
				out, _ := vec.Axpy(a, in[0], in[1])
				return out
			}, x, y)
			holdMemory(t, "Scal", func(in [][]uint64) []uint64 {
				out, _ := vec.Scal(a, in[0])
				return out
			}, x)
		}
		for _, other := range [][]uint64{y, make([]uint64, n)} {
			holdMemory(t, "Add", func(in [][]uint64) []uint64 {
				out, _ := vec.Add(in[0], in[1])
				return out
			}, x, other)
			holdMemory(t, "Dot", func(in [][]uint64) []uint64 {
				sum, _ := vec.Dot(in[0], in[1])
				return []uint64{sum}
			}, x, other)
		}
		holdMemory(t, "Largest", func(in [][]uint64) []uint64 {
			_, size := vec.Largest(in[0])
			return []uint64{size, uint64(vec.Check(in[0]))}
		}, x)
	}
}
