package machine_test

import (
	"math"
	"slices"
	"testing"

	"vernier/api"
)

const (
	sign  = uint64(1) << 63
	one   = uint64(0x3ff0000000000000) // 1
	two   = uint64(0x4000000000000000) // 2
	least = uint64(0x0010000000000000) // 2^-1022, the smallest of e 1
	great = uint64(0x7fefffffffffffff) // the greatest finite number
	inf   = uint64(0x7ff0000000000000)
)

// lost are infinite ones, and NaNs of any fraction, both signs.
var lost = []uint64{inf, sign | inf, inf + 1, api.NaN, api.NaN + 1, 1<<63 - 1, sign | inf + 1, sign | api.NaN, 1<<64 - 1}

// of is the number that the machine tells.
var of = math.Float64bits

// power is 2^k, k from -1074 to 1023.
func power(k int) uint64 {
	if k < -1022 {
		return 1 << (k + 1074)
	}
	return uint64(k+1023) << 52
}

// plus, less, times and by are as the machine adds, subtracts, multiplies and
// divides.
func plus(a, b uint64) uint64 { return of(float64(math.Float64frombits(a) + math.Float64frombits(b))) }
func less(a, b uint64) uint64 { return of(float64(math.Float64frombits(a) - math.Float64frombits(b))) }
func times(a, b uint64) uint64 {
	return of(float64(math.Float64frombits(a) * math.Float64frombits(b)))
}
func by(a, b uint64) uint64 { return of(float64(math.Float64frombits(a) / math.Float64frombits(b))) }

func isNaN(a uint64) bool    { return a&^sign > inf }
func isFinite(a uint64) bool { return a&^sign < inf }

// source is a rule of numbers that look mixed, the same in every run.
type source uint64

func (s *source) next() uint64 {
	*s += 0x9e3779b97f4a7c15
	z := uint64(*s)
	z = (z ^ z>>30) * 0xbf58476d1ce4e5b9
	z = (z ^ z>>27) * 0x94d049bb133111eb
	return z ^ z>>31
}

// below is a number from 0 to n-1.
func (s *source) below(n int) int { return int(s.next() % uint64(n)) }

// near makes a number about 1, of either sign, its exponent at most n from 1's;
// zeros of both signs come up, too.
func (s *source) near(n int) uint64 {
	a := s.next() & (sign | 1<<52 - 1)
	switch s.below(12) {
	case 0:
		return a & sign
	case 1:
		return a&sign | one
	}
	return a | uint64(1023+s.below(2*n+1)-n)<<52
}

// finite makes a finite number of any size.
func (s *source) finite() uint64 {
	a := s.next()
	if !isFinite(a) || s.below(8) == 0 {
		return a & (sign | 1<<52 - 1)
	}
	return a
}

// row makes n numbers about 1.
func (s *source) row(n int) []uint64 {
	out := make([]uint64, n)
	for i := range out {
		out[i] = s.near(20)
	}
	return out
}

// mat is a matrix, just as it comes.
func mat(rows, cols int, l ...uint64) api.Mat { return api.Mat{Rows: rows, Cols: cols, Data: l} }

// filled is a matrix of one number.
func filled(rows, cols int, a uint64) api.Mat {
	return mat(rows, cols, slices.Repeat([]uint64{a}, rows*cols)...)
}

// with is a matrix with another number at one place.
func with(a api.Mat, place int, word uint64) api.Mat {
	out := mat(a.Rows, a.Cols, slices.Clone(a.Data)...)
	out.Data[place] = word
	return out
}

// expect holds a matrix and its error against those wanted.
func expect(t *testing.T, what string, got api.Mat, err api.Errno, want api.Mat, wantErr api.Errno) {
	t.Helper()
	if got.Rows != want.Rows || got.Cols != want.Cols || !slices.Equal(got.Data, want.Data) || err != wantErr {
		t.Errorf("%s = %d by %d %#x, error %d; want %d by %d %#x, error %d", what, got.Rows, got.Cols, got.Data, err, want.Rows, want.Cols, want.Data, wantErr)
	}
}

// broken are matrices that may not be.
func broken() []api.Mat {
	out := []api.Mat{{}, {Data: []uint64{}}, {Data: []uint64{one}}, mat(1, 1), mat(1, 1, one, one), mat(2, 2, one, one, one), mat(2, 2, one, one, one, one, inf), mat(-1, -1, one), mat(0, 1), mat(1, 0), filled(65, 1, one), filled(1, 65, inf)}
	for _, n := range []int{math.MinInt, math.MaxInt, 1 << 32, -1} {
		out = append(out, mat(n, 1, one), mat(1, n, one), mat(n, n, one))
	}
	return out
}

// fault is a matrix, and shape.Finite's error of it.
type fault struct {
	a   api.Mat
	err api.Errno
}

// faults are matrices that may not be, and some that are not finite.
func faults() []fault {
	var out []fault
	for _, a := range broken() {
		out = append(out, fault{a, api.ErrShape})
	}
	for _, word := range lost {
		for _, a := range []api.Mat{mat(1, 1, word), mat(2, 2, word, one, one, one), mat(2, 2, one, one, one, word), mat(3, 1, one, one, word), with(filled(64, 64, one), 4095, word)} {
			out = append(out, fault{a, api.ErrInput})
		}
	}
	return out
}

// mat makes a matrix of numbers about 1.
func (s *source) mat(rows, cols int) api.Mat { return mat(rows, cols, s.row(rows*cols)...) }

// holdMemory holds a call against P2: it changes none of the lists that are
// handed in, up to their capacities, keeps none, and tells new memory each time.
func holdMemory[T uint64 | int](t *testing.T, what string, call func(in [][]T) []T, lists ...[]T) {
	t.Helper()
	in := make([][]T, len(lists))
	for i, l := range lists {
		in[i] = append(make([]T, 0, len(l)+3), l...)
	}
	out := call(in)
	for i, l := range lists {
		if want := append(slices.Clone(l), 0, 0, 0); !slices.Equal(in[i][:len(want)], want) {
			t.Errorf("P2: %s changes its list %d", what, i)
		}
	}
	told, again := slices.Clone(out), call(in)
	for _, l := range append(in, again) {
		for i := range l {
			l[i] = ^l[i]
		}
	}
	if len(out) == 0 || !slices.Equal(out, told) {
		t.Errorf("P2: %s tells %v in memory that is shared: %v", what, told, out)
	}
}

// list is numbers, just as they come.
func list(l ...uint64) []uint64 { return l }

// transposed is a, which may be, with its rows as columns.
func transposed(a api.Mat) api.Mat {
	out := mat(a.Cols, a.Rows)
	for j := range a.Cols {
		for i := range a.Rows {
			out.Data = append(out.Data, a.Data[i*a.Cols+j])
		}
	}
	return out
}

// product is a times b, as the machine adds and multiplies, from +0 on.
func product(a, b api.Mat) api.Mat {
	out := mat(a.Rows, b.Cols)
	for i := range a.Rows {
		for j := range b.Cols {
			sum := uint64(0)
			for k := range a.Cols {
				sum = plus(sum, times(a.Data[i*a.Cols+k], b.Data[k*b.Cols+j]))
			}
			out.Data = append(out.Data, sum)
		}
	}
	return out
}

// unit is 1 on the diagonal, else +0.
func unit(n int) api.Mat {
	out := filled(n, n, 0)
	for i := range n {
		out.Data[i*n+i] = one
	}
	return out
}

// cut is the part of a of rows by cols from row i and column j on.
func cut(a api.Mat, i, j, rows, cols int) api.Mat {
	out := mat(rows, cols)
	for k := range rows {
		from := (i+k)*a.Cols + j
		out.Data = append(out.Data, a.Data[from:from+cols]...)
	}
	return out
}

// paste puts b into a, from row i and column j on.
func paste(a, b api.Mat, i, j int) {
	for k := range b.Rows {
		copy(a.Data[(i+k)*a.Cols+j:], b.Data[k*b.Cols:(k+1)*b.Cols])
	}
}

// both is what op tells of each two numbers at the same place.
func both(op func(a, b uint64) uint64, a, b api.Mat) api.Mat {
	out := mat(a.Rows, a.Cols)
	for k, word := range a.Data {
		out.Data = append(out.Data, op(word, b.Data[k]))
	}
	return out
}

// seven is a times b in seven parts, as the chapter's words say it, as the
// machine adds and multiplies.
func seven(a, b api.Mat, c int) api.Mat {
	m, k, n := a.Rows, a.Cols, b.Cols
	if m <= c || k <= c || n <= c {
		return product(a, b)
	}
	m2, k2, n2 := m/2, k/2, n/2
	a11, a12, a21, a22 := cut(a, 0, 0, m2, k2), cut(a, 0, k2, m2, k2), cut(a, m2, 0, m2, k2), cut(a, m2, k2, m2, k2)
	b11, b12, b21, b22 := cut(b, 0, 0, k2, n2), cut(b, 0, n2, k2, n2), cut(b, k2, 0, k2, n2), cut(b, k2, n2, k2, n2)
	s1, t1 := both(plus, a21, a22), both(less, b12, b11)
	p5 := seven(s1, t1, c)
	s2, t2 := both(less, s1, a11), both(less, b22, t1)
	p6 := seven(s2, t2, c)
	p1 := seven(a11, b11, c)
	u2 := both(plus, p1, p6)
	c11 := both(plus, p1, seven(a12, b21, c))
	s4, t4 := both(less, a12, s2), both(less, t2, b21)
	c12 := both(plus, both(plus, u2, p5), seven(s4, b22, c))
	p4 := seven(a22, t4, c)
	u3 := both(plus, u2, seven(both(less, a11, a21), both(less, b22, b12), c))
	out := product(a, b) // for what is odd
	paste(out, c11, 0, 0)
	paste(out, c12, 0, n2)
	paste(out, both(less, u3, p4), m2, 0)
	paste(out, both(plus, u3, p5), m2, n2)
	if k%2 == 1 {
		for i := range 2 * m2 {
			for j := range 2 * n2 {
				out.Data[i*n+j] = plus(out.Data[i*n+j], times(a.Data[i*k+k-1], b.Data[(k-1)*n+j]))
			}
		}
	}
	return out
}

// smalls is a matrix of whole numbers from -most to most.
func (s *source) smalls(rows, cols, most int) api.Mat {
	out := mat(rows, cols)
	for range rows * cols {
		out.Data = append(out.Data, of(float64(s.below(2*most+1)-most)))
	}
	return out
}

// recursed is what a triangle solves by halves, as the chapter's words say it.
func recursed(t api.Mat, upper, unit bool, b api.Mat, c int) api.Mat {
	n := t.Rows
	if n == 1 {
		out := mat(1, b.Cols, slices.Clone(b.Data)...)
		for k, word := range out.Data {
			if !unit {
				out.Data[k] = by(word, t.Data[0])
			}
		}
		return out
	}
	n1, n2 := n/2, n-n/2
	t11, t22 := cut(t, 0, 0, n1, n1), cut(t, n1, n1, n2, n2)
	b1, b2 := cut(b, 0, 0, n1, b.Cols), cut(b, n1, 0, n2, b.Cols)
	out := filled(n, b.Cols, 0)
	if upper {
		x2 := recursed(t22, upper, unit, b2, c)
		paste(out, x2, n1, 0)
		paste(out, recursed(t11, upper, unit, both(less, b1, seven(cut(t, 0, n1, n1, n2), x2, c)), c), 0, 0)
		return out
	}
	x1 := recursed(t11, upper, unit, b1, c)
	paste(out, x1, 0, 0)
	paste(out, recursed(t22, upper, unit, both(less, b2, seven(cut(t, n1, 0, n2, n1), x1, c)), c), n1, 0)
	return out
}

// halved is the half of a that counts, else +0; unit: 1 on the diagonal.
func halved(a api.Mat, upper, unit bool) api.Mat {
	out := filled(a.Rows, a.Cols, 0)
	for k, word := range a.Data {
		switch i, j := k/a.Cols, k%a.Cols; {
		case i == j && unit:
			out.Data[k] = one
		case i == j, i < j == upper:
			out.Data[k] = word
		}
	}
	return out
}

// triangle makes a square of numbers about 1, none of the diagonal's zero, whose
// solutions don't get too great.
func (s *source) triangle(n int) api.Mat {
	out := s.mat(n, n)
	for k := range out.Data {
		if k%(n+1) == 0 {
			out.Data[k] = s.near(1)&(sign|1<<52-1) | one
		} else if n > 8 {
			out.Data[k] = times(out.Data[k], power(-20))
		}
	}
	return out
}

// largestRow is the first row of the one column of a that is farthest from 0.
func largestRow(a api.Mat) int {
	row := 0
	for i, word := range a.Data {
		if word&^sign > a.Data[row]&^sign {
			row = i
		}
	}
	return row
}

// swapped is a with row i and row swaps[i] in each other's places, from the first
// on.
func swapped(a api.Mat, swaps []int) api.Mat {
	out := mat(a.Rows, a.Cols, slices.Clone(a.Data)...)
	for i, k := range swaps {
		upper, lower := cut(out, i, 0, 1, a.Cols), cut(out, k, 0, 1, a.Cols)
		paste(out, lower, i, 0)
		paste(out, upper, k, 0)
	}
	return out
}

// factored is both triangles of a, the swaps and the first zero pivot, as the
// chapter's words say it.
func factored(a api.Mat, c int) (api.Mat, []int, int) {
	m, n := a.Rows, a.Cols
	if n == 1 {
		row := largestRow(a)
		out := swapped(a, []int{row})
		if out.Data[0]&^sign == 0 {
			return out, []int{row}, 0
		}
		for i := 1; i < m; i++ {
			out.Data[i] = by(out.Data[i], out.Data[0])
		}
		return out, []int{row}, -1
	}
	n1 := n / 2
	n2 := n - n1
	out := mat(m, n, slices.Clone(a.Data)...)
	left, swaps, zero := factored(cut(a, 0, 0, m, n1), c)
	right := swapped(cut(a, 0, n1, m, n2), swaps)
	top := recursed(cut(left, 0, 0, n1, n1), false, true, cut(right, 0, 0, n1, n2), c)
	below := both(less, cut(right, n1, 0, m-n1, n2), seven(cut(left, n1, 0, m-n1, n1), top, c))
	rest, more, zero2 := factored(below, c)
	paste(out, left, 0, 0)
	paste(out, swapped(cut(left, n1, 0, m-n1, n1), more), n1, 0)
	paste(out, top, 0, n1)
	paste(out, rest, n1, n1)
	for _, k := range more {
		swaps = append(swaps, n1+k)
	}
	if zero < 0 && zero2 >= 0 {
		zero = n1 + zero2
	}
	return out, swaps, zero
}

// root is as the machine tells it.
func root(a uint64) uint64 { return of(math.Sqrt(math.Float64frombits(a))) }

// mirrored is a with its lower half above, too.
func mirrored(a api.Mat) api.Mat {
	out := mat(a.Rows, a.Cols)
	for k := range a.Data {
		i, j := k/a.Cols, k%a.Cols
		out.Data = append(out.Data, a.Data[max(i, j)*a.Cols+min(i, j)])
	}
	return out
}

// squared is the triangle whose square a is, as the chapter's words say it; or
// the place of the first number that has no root, else -1; or false: a number is
// not finite.
func squared(a api.Mat, c int) (api.Mat, int, bool) {
	n := a.Rows
	if n == 1 {
		if x := math.Float64frombits(a.Data[0]); !(x > 0) {
			return api.Mat{}, 0, true
		}
		return mat(1, 1, root(a.Data[0])), -1, true
	}
	n1, n2 := n/2, n-n/2
	first, place, ok := squared(cut(a, 0, 0, n1, n1), c)
	if place >= 0 || !ok {
		return api.Mat{}, place, ok
	}
	solved := recursed(first, false, false, transposed(cut(a, n1, 0, n2, n1)), c)
	left := both(less, cut(a, n1, n1, n2, n2), seven(transposed(solved), solved, c))
	for _, word := range append(slices.Clone(solved.Data), left.Data...) {
		if !isFinite(word) {
			return api.Mat{}, -1, false
		}
	}
	last, place, ok := squared(mirrored(left), c)
	if place >= 0 || !ok {
		return api.Mat{}, place + n1, ok
	}
	out := filled(n, n, 0)
	paste(out, first, 0, 0)
	paste(out, transposed(solved), n1, 0)
	paste(out, last, n1, n1)
	return out, -1, true
}

// square is a lower triangle of small whole numbers, 1 to 9 on the diagonal, and
// its product with it transposed.
func (s *source) square(n int) (api.Mat, api.Mat) {
	l := filled(n, n, 0)
	for i := range n {
		for j := range i {
			l.Data[i*n+j] = of(float64(s.below(19) - 9))
		}
		l.Data[i*n+i] = of(float64(1 + s.below(9)))
	}
	for k, word := range l.Data {
		if word == sign {
			l.Data[k] = 0
		}
	}
	return l, product(l, transposed(l))
}

// firm is a matrix of numbers about 1, alike transposed, that has a triangle: its
// diagonal is great.
func (s *source) firm(n int) api.Mat {
	out := s.mat(n, n)
	for k := range out.Data {
		out.Data[k] = s.near(3)
		if k%(n+1) == 0 {
			out.Data[k] = of(float64(100*n + s.below(1000)))
		}
	}
	return mirrored(out)
}

// made are v, tau and beta of the mirror of x, as chapter 25 says it; or its
// error.
func made(x []uint64) ([]uint64, uint64, uint64, api.Errno) {
	v := make([]uint64, len(x))
	v[0] = one
	if !slices.ContainsFunc(x[1:], func(a uint64) bool { return a&^sign != 0 }) {
		return v, 0, x[0], api.OK
	}
	square := uint64(0)
	for _, a := range x {
		square = plus(square, times(a, a))
	}
	if !isFinite(square) {
		return nil, 0, 0, api.ErrOverflow
	}
	beta := of(math.Sqrt(math.Float64frombits(square)))
	if beta == 0 {
		return nil, 0, 0, api.ErrZero
	}
	if x[0]&sign == 0 {
		beta |= sign
	}
	for i := 1; i < len(x); i++ {
		v[i] = by(x[i], less(x[0], beta))
	}
	return v, by(less(beta, x[0]), beta), beta, api.OK
}

// finite tells whether all numbers of all matrices are.
func finite(l ...api.Mat) bool {
	for _, a := range l {
		if slices.ContainsFunc(a.Data, func(x uint64) bool { return !isFinite(x) }) {
			return false
		}
	}
	return true
}

// applied is c less y (t (y transposed c)), as the machine tells it.
func applied(y, t, c api.Mat, cut int) api.Mat {
	return both(less, c, seven(y, seven(t, seven(transposed(y), c, cut), cut), cut))
}

// mirrors are y, t and r of a, as the chapter's words say it; or the error.
func mirrors(a api.Mat, cutoff int) (y, t, r api.Mat, err api.Errno) {
	m, n := a.Rows, a.Cols
	if n == 1 {
		v, tau, beta, err := made(a.Data)
		return mat(m, 1, v...), mat(1, 1, tau), mat(1, 1, beta), err
	}
	n1 := n / 2
	n2 := n - n1
	y1, t1, r1, err := mirrors(cut(a, 0, 0, m, n1), cutoff)
	if err != api.OK {
		return y, t, r, err
	}
	c := applied(y1, transposed(t1), cut(a, 0, n1, m, n2), cutoff)
	if !finite(c) {
		return y, t, r, api.ErrOverflow
	}
	y2, t2, r2, err := mirrors(cut(c, n1, 0, m-n1, n2), cutoff)
	if err != api.OK {
		return y, t, r, err
	}
	y, t, r = filled(m, n, 0), filled(n, n, 0), filled(n, n, 0)
	paste(y, y1, 0, 0)
	paste(y, y2, n1, n1)
	t3 := seven(t1, seven(seven(transposed(y1), cut(y, 0, n1, m, n2), cutoff), t2, cutoff), cutoff)
	for k := range t3.Data {
		t3.Data[k] ^= sign
	}
	paste(t, t1, 0, 0)
	paste(t, t3, 0, n1)
	paste(t, t2, n1, n1)
	paste(r, r1, 0, 0)
	paste(r, cut(c, 0, 0, n1, n2), 0, n1)
	paste(r, r2, n1, n1)
	if !finite(y, t, r) {
		return y, t, r, api.ErrOverflow
	}
	return y, t, r, api.OK
}
