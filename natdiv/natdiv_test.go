package natdiv

import (
	"math"
	"math/big"
	"slices"
	"testing"

	"vernier/api"
	"vernier/nat"
)

const top = ^uint64(0)

// value is the number that limbs stand for, reckoned by another program.
func value(a []uint64) *big.Int {
	v := new(big.Int)
	for i := len(a) - 1; i >= 0; i-- {
		v.Lsh(v, 64)
		v.Or(v, new(big.Int).SetUint64(a[i]))
	}
	return v
}

// isValue tells whether a is just v, without zeros at the end.
func isValue(a []uint64, v *big.Int) bool {
	if len(a) > 0 && a[len(a)-1] == 0 {
		return false
	}
	return value(a).Cmp(v) == 0
}

// source is a rule of numbers that look mixed, the same in every run.
type source uint64

func (s *source) next() uint64 {
	*s += 0x9e3779b97f4a7c15
	z := uint64(*s)
	z = (z ^ z>>30) * 0xbf58476d1ce4e5b9
	z = (z ^ z>>27) * 0x94d049bb133111eb
	return z ^ z>>31
}

// limbs makes up to most limbs; the edges of a limb come up often, at the end too.
func (s *source) limbs(most int) []uint64 {
	out := make([]uint64, s.next()%uint64(most+1))
	for i := range out {
		switch s.next() % 6 {
		case 0:
			out[i] = 0
		case 1:
			out[i] = top
		case 2:
			out[i] = 1 << (s.next() % 64)
		case 3:
			out[i] = top << (s.next() % 64)
		default:
			out[i] = s.next()
		}
	}
	return out
}

// edges are lists in which each edge of the chapter stands at least once.
func edges() [][]uint64 {
	return [][]uint64{
		nil, {}, {0}, {0, 0, 0},
		{1}, {1, 0}, {2}, {3}, {4}, {5}, {6}, {7}, {8}, {9}, {10}, {12, 0, 0}, {15}, {16}, {17},
		{1 << 31}, {1 << 32}, {1<<32 - 1}, {1 << 63}, {1<<63 + 1}, {1<<63 - 1}, {top}, {top, 0}, {top - 1},
		{0, 1}, {0, 1, 0, 0}, {1, 1}, {top, 1}, {0, top}, {top, top}, {top, top, 0}, {0, top - 1}, {top, top - 1},
		{0, 1 << 63}, {1, 1 << 63}, {top, 1 << 63}, {top - 1, 1 << 63}, {top, 1<<63 - 1},
		{0, 0, 1}, {1, 0, 1}, {top, 0, 1}, {0, top, 1}, {0, 0, 1 << 63}, {top, top, 1 << 63}, {0, 1, 1 << 63}, {top, top, top},
		{0, 0, 0, 1}, {0, 0, 0, top}, {top, 0, 0, top}, {0, 0, top, top}, {0, 0, 1, 1 << 63}, {top, top, top, top},
	}
}

// samples are the edges and a good many mixed lists.
func samples(count, most int) [][]uint64 {
	s := source(count)
	out := edges()
	for range count {
		out = append(out, s.limbs(most))
	}
	return out
}

// shifts are the edges of what a number may be shifted by, and some between.
func shifts() []int {
	return []int{0, 1, 2, 31, 63, 64, 65, 100, 127, 128, 129, 192, 1000, api.MaxShift - 1, api.MaxShift}
}

func same(a, b []uint64) bool {
	return slices.Equal(a, b)
}

// P2.1: what the chapter says of each call, on numbers written out here.

func TestShiftsWrittenOut(t *testing.T) {
	up := append(make([]uint64, 1024), 5)
	for _, c := range []struct {
		call string
		a    []uint64
		n    int
		want []uint64
	}{
		{"Shl", nil, 0, nil}, {"Shl", []uint64{}, 70, nil}, {"Shl", []uint64{0, 0}, api.MaxShift, nil},
		{"Shl", []uint64{5}, 0, []uint64{5}}, {"Shl", []uint64{5, 0}, 0, []uint64{5}}, {"Shl", []uint64{5}, 1, []uint64{10}},
		{"Shl", []uint64{5}, 63, []uint64{1 << 63, 2}}, {"Shl", []uint64{5, 0, 0}, 64, []uint64{0, 5}},
		{"Shl", []uint64{top}, 1, []uint64{top - 1, 1}}, {"Shl", []uint64{1 << 63, 1}, 65, []uint64{0, 0, 3}},
		{"Shl", []uint64{5}, api.MaxShift, up},
		{"Shr", nil, 0, nil}, {"Shr", []uint64{}, 70, nil}, {"Shr", []uint64{0, 0}, api.MaxShift, nil},
		{"Shr", []uint64{5}, 0, []uint64{5}}, {"Shr", []uint64{5, 0}, 0, []uint64{5}}, {"Shr", []uint64{5}, 1, []uint64{2}},
		{"Shr", []uint64{5}, 2, []uint64{1}}, {"Shr", []uint64{5}, 3, nil}, {"Shr", []uint64{5, 0, 0}, 64, nil},
		{"Shr", []uint64{7, 3}, 1, []uint64{1<<63 + 3, 1}}, {"Shr", []uint64{7, 3}, 64, []uint64{3}},
		{"Shr", []uint64{7, 3, 0}, 65, []uint64{1}}, {"Shr", []uint64{7, 3}, 66, nil}, {"Shr", []uint64{7, 3}, api.MaxShift, nil},
		{"Shr", up, api.MaxShift, []uint64{5}}, {"Shr", up, api.MaxShift - 1, []uint64{10}},
	} {
		call := map[string]func([]uint64, int) ([]uint64, api.Errno){"Shl": Shl, "Shr": Shr}[c.call]
		if got, err := call(c.a, c.n); err != api.OK || !same(got, c.want) {
			t.Errorf("P2.1: %s(%v, %d) = %v, %d, want %v", c.call, c.a, c.n, got, err, c.want)
		}
	}
}

func TestShiftsOutOfRange(t *testing.T) {
	for _, n := range []int{-1, -63, -64, -65, -api.MaxShift, api.MaxShift + 1, api.MaxShift + 64, 2 * api.MaxShift, math.MaxInt32, math.MinInt32, math.MaxInt, math.MinInt} {
		for _, a := range edges() {
			if got, err := Shl(a, n); err != api.ErrRange || len(got) != 0 {
				t.Errorf("P2.1: Shl(%v, %d) = %v, %d, want ErrRange and nothing", a, n, got, err)
			}
			if got, err := Shr(a, n); err != api.ErrRange || len(got) != 0 {
				t.Errorf("P2.1: Shr(%v, %d) = %v, %d, want ErrRange and nothing", a, n, got, err)
			}
		}
	}
}

func TestDivModWrittenOut(t *testing.T) {
	for _, c := range []struct{ a, b, quotient, rest []uint64 }{
		{nil, []uint64{1}, nil, nil}, {[]uint64{0, 0}, []uint64{7, 0}, nil, nil},
		{[]uint64{17}, []uint64{5}, []uint64{3}, []uint64{2}}, {[]uint64{17, 0}, []uint64{5, 0, 0}, []uint64{3}, []uint64{2}},
		{[]uint64{5}, []uint64{17}, nil, []uint64{5}}, {[]uint64{5, 0, 0}, []uint64{0, 1}, nil, []uint64{5}},
		{[]uint64{4, 1}, []uint64{5, 1}, nil, []uint64{4, 1}}, {[]uint64{5, 1}, []uint64{5, 1}, []uint64{1}, nil},
		{[]uint64{9, 8, 7}, []uint64{1}, []uint64{9, 8, 7}, nil},
		{[]uint64{0, 1}, []uint64{3}, []uint64{0x5555555555555555}, []uint64{1}},
		{[]uint64{0, 0, 1}, []uint64{top}, []uint64{1, 1}, []uint64{1}},
		{[]uint64{0, 0, 1}, []uint64{0, 1}, []uint64{0, 1}, nil},
		{[]uint64{top, top, top}, []uint64{0, 1 << 63}, []uint64{top, 1}, []uint64{top, 1<<63 - 1}},
		// The guess of a digit is too great by 1, by 2, and cut to one limb: too great by 1, and just right.
		{[]uint64{0, 0, 1}, []uint64{1, 1 << 63}, []uint64{1}, []uint64{top, 1<<63 - 1}},
		{[]uint64{0, 0, 1<<63 - 1}, []uint64{top, 1 << 63}, []uint64{top - 3}, []uint64{top - 3, 4}},
		{[]uint64{0, 0, 0, 1 << 62}, []uint64{top, top, 1 << 62}, []uint64{top - 3}, []uint64{top - 3, 0, 4}},
		{[]uint64{0, 0, 1 << 63}, []uint64{top, 1 << 63}, []uint64{top - 1}, []uint64{top - 1, 2}},
		{[]uint64{0, top - 1, 1 << 63}, []uint64{top, 1 << 63}, []uint64{top}, []uint64{top, 1<<63 - 1}},
	} {
		quotient, rest, err := DivMod(c.a, c.b)
		if err != api.OK || !same(quotient, c.quotient) || !same(rest, c.rest) {
			t.Errorf("P2.1: DivMod(%v, %v) = %v, %v, %d, want %v, %v", c.a, c.b, quotient, rest, err, c.quotient, c.rest)
		}
	}
}

func TestDivModByZero(t *testing.T) {
	for _, none := range [][]uint64{nil, {}, {0}, {0, 0, 0}} {
		for _, a := range edges() {
			quotient, rest, err := DivMod(a, none)
			if err != api.ErrZero || len(quotient) != 0 || len(rest) != 0 {
				t.Errorf("P2.1: DivMod(%v, %v) = %v, %v, %d, want ErrZero and nothing", a, none, quotient, rest, err)
			}
		}
	}
}

func TestSqrtWrittenOut(t *testing.T) {
	for _, c := range []struct{ a, root, rest []uint64 }{
		{[]uint64{10}, []uint64{3}, []uint64{1}}, // the chapter's example
		{nil, nil, nil}, {[]uint64{}, nil, nil}, {[]uint64{0, 0}, nil, nil},
		{[]uint64{1}, []uint64{1}, nil}, {[]uint64{2}, []uint64{1}, []uint64{1}}, {[]uint64{3, 0}, []uint64{1}, []uint64{2}},
		{[]uint64{4}, []uint64{2}, nil}, {[]uint64{8}, []uint64{2}, []uint64{4}}, {[]uint64{9, 0, 0}, []uint64{3}, nil},
		{[]uint64{top}, []uint64{1<<32 - 1}, []uint64{1<<33 - 2}}, {[]uint64{0, 1}, []uint64{1 << 32}, nil},
		{[]uint64{1, top - 1}, []uint64{top}, nil}, {[]uint64{0, top - 1}, []uint64{top - 1}, []uint64{top - 3, 1}},
		{[]uint64{top, top}, []uint64{top}, []uint64{top - 1, 1}}, {[]uint64{0, 0, 1}, []uint64{0, 1}, nil},
		{[]uint64{7, 0, 4}, []uint64{0, 2}, []uint64{7}},
	} {
		if root, rest := Sqrt(c.a); !same(root, c.root) || !same(rest, c.rest) {
			t.Errorf("P2.1: Sqrt(%v) = %v, %v, want %v, %v", c.a, root, rest, c.root, c.rest)
		}
	}
}

func TestZerosWrittenOut(t *testing.T) {
	for _, c := range []struct {
		a    []uint64
		want int
	}{
		{nil, 0}, {[]uint64{}, 0}, {[]uint64{0}, 0}, {[]uint64{0, 0, 0}, 0},
		{[]uint64{1}, 0}, {[]uint64{2}, 1}, {[]uint64{12, 0}, 2}, {[]uint64{1 << 63}, 63}, {[]uint64{1 << 63, 0}, 63},
		{[]uint64{0, 1}, 64}, {[]uint64{0, 6, 0}, 65}, {[]uint64{4, 1}, 2}, {[]uint64{0, 0, 0, 1 << 63}, 255}, {[]uint64{top, top}, 0},
	} {
		if got := Zeros(c.a); got != c.want {
			t.Errorf("P2.1: Zeros(%v) = %d, want %d", c.a, got, c.want)
		}
	}
}

func TestGcdWrittenOut(t *testing.T) {
	for _, c := range []struct{ a, b, want []uint64 }{
		{nil, nil, nil}, {[]uint64{}, []uint64{0, 0}, nil}, {[]uint64{0}, nil, nil},
		{nil, []uint64{6}, []uint64{6}}, {[]uint64{6, 0}, nil, []uint64{6}}, {[]uint64{0, 0, 0}, []uint64{0, 6, 0}, []uint64{0, 6}},
		{[]uint64{1}, []uint64{top, top}, []uint64{1}}, {[]uint64{12}, []uint64{18}, []uint64{6}}, {[]uint64{18, 0}, []uint64{12, 0, 0}, []uint64{6}},
		{[]uint64{7}, []uint64{7}, []uint64{7}}, {[]uint64{8}, []uint64{12}, []uint64{4}}, {[]uint64{5}, []uint64{21}, []uint64{1}},
		{[]uint64{0, 0, 1}, []uint64{0, 1}, []uint64{0, 1}}, {[]uint64{0, 6}, []uint64{0, 0, 9}, []uint64{0, 6}}, {[]uint64{0, 6}, []uint64{0, 9}, []uint64{0, 3}},
		{[]uint64{0, 1}, []uint64{1 << 63}, []uint64{1 << 63}}, {[]uint64{top, top}, []uint64{top}, []uint64{top}},
	} {
		if got := Gcd(c.a, c.b); !same(got, c.want) {
			t.Errorf("P2.1: Gcd(%v, %v) = %v, want %v", c.a, c.b, got, c.want)
		}
	}
}

// P2.1: every call against numbers that another program reckons.

func TestShiftsAgainstNumbers(t *testing.T) {
	for _, a := range samples(100, 9) {
		for _, n := range shifts() {
			if got, err := Shl(a, n); err != api.OK || !isValue(got, new(big.Int).Lsh(value(a), uint(n))) {
				t.Fatalf("P2.1: Shl(%v, %d) = %v, %d", a, n, got, err)
			}
			if got, err := Shr(a, n); err != api.OK || !isValue(got, new(big.Int).Rsh(value(a), uint(n))) {
				t.Fatalf("P2.1: Shr(%v, %d) = %v, %d", a, n, got, err)
			}
		}
	}
}

func TestDivModAgainstNumbers(t *testing.T) {
	all := samples(250, 9)
	for _, a := range all {
		for _, b := range all {
			w := value(b)
			if w.Sign() == 0 {
				continue
			}
			q, r := new(big.Int).QuoRem(value(a), w, new(big.Int))
			if quotient, rest, err := DivMod(a, b); err != api.OK || !isValue(quotient, q) || !isValue(rest, r) {
				t.Fatalf("P2.1: DivMod(%v, %v) = %v, %v, %d", a, b, quotient, rest, err)
			}
		}
	}
}

// TestDivModNearDivisors divides numbers just below, at and above a multiple:
// there the guess of a digit is most often too great.
func TestDivModNearDivisors(t *testing.T) {
	all := samples(60, 4)
	for _, b := range all {
		if nat.Bits(b) == 0 {
			continue
		}
		for _, times := range all {
			product := nat.Mul(b, times)
			for _, a := range [][]uint64{nat.Sub(product, []uint64{1}), product, nat.Add(product, []uint64{1})} {
				q, r := new(big.Int).QuoRem(value(a), value(b), new(big.Int))
				if quotient, rest, err := DivMod(a, b); err != api.OK || !isValue(quotient, q) || !isValue(rest, r) {
					t.Fatalf("P2.1: DivMod(%v, %v) = %v, %v, %d", a, b, quotient, rest, err)
				}
			}
		}
	}
}

func TestSqrtAgainstNumbers(t *testing.T) {
	for _, a := range samples(1000, 9) {
		square := nat.Mul(a, a)
		for _, x := range [][]uint64{a, square, nat.Sub(square, []uint64{1}), nat.Add(square, []uint64{1}), nat.Add(square, nat.Add(a, a))} {
			v := value(x)
			r := new(big.Int).Sqrt(v)
			left := new(big.Int).Sub(v, new(big.Int).Mul(r, r))
			if root, rest := Sqrt(x); !isValue(root, r) || !isValue(rest, left) {
				t.Fatalf("P2.1: Sqrt(%v) = %v, %v", x, root, rest)
			}
		}
	}
	for x := range uint64(3000) {
		r := new(big.Int).Sqrt(new(big.Int).SetUint64(x)).Uint64()
		if root, rest := Sqrt([]uint64{x}); !same(root, nat.Norm([]uint64{r})) || !same(rest, nat.Norm([]uint64{x - r*r})) {
			t.Fatalf("P2.1: Sqrt(%d) = %v, %v", x, root, rest)
		}
	}
}

func TestZerosAgainstNumbers(t *testing.T) {
	for _, a := range samples(1000, 9) {
		if got := Zeros(a); got != int(value(a).TrailingZeroBits()) {
			t.Fatalf("P2.1: Zeros(%v) = %d", a, got)
		}
	}
}

func TestGcdAgainstNumbers(t *testing.T) {
	all := samples(60, 6)
	for _, a := range all {
		for _, b := range all {
			want := new(big.Int).GCD(nil, nil, value(a), value(b))
			if got := Gcd(a, b); !isValue(got, want) {
				t.Fatalf("P2.1: Gcd(%v, %v) = %v", a, b, got)
			}
		}
	}
	for a := range uint64(80) {
		for b := range uint64(80) {
			want := new(big.Int).GCD(nil, nil, new(big.Int).SetUint64(a), new(big.Int).SetUint64(b))
			if got := Gcd([]uint64{a}, []uint64{b}); !isValue(got, want) {
				t.Fatalf("P2.1: Gcd(%d, %d) = %v", a, b, got)
			}
		}
	}
}

// TestLongAgainstNumbers takes numbers that are longer than any shift.
func TestLongAgainstNumbers(t *testing.T) {
	full := slices.Repeat([]uint64{top}, 2100)
	mixed := make([]uint64, 1030)
	s := source(7)
	for i := range mixed {
		mixed[i] = s.next()
	}
	v, w := value(full), value(mixed)
	q, r := new(big.Int).QuoRem(v, w, new(big.Int))
	if quotient, rest, err := DivMod(full, mixed); err != api.OK || !isValue(quotient, q) || !isValue(rest, r) {
		t.Error("P2.1: DivMod of 2100 by 1030 limbs")
	}
	root := new(big.Int).Sqrt(v)
	left := new(big.Int).Sub(v, new(big.Int).Mul(root, root))
	if got, rest := Sqrt(full); !isValue(got, root) || !isValue(rest, left) {
		t.Error("P2.1: Sqrt of 2100 limbs")
	}
	if got := Gcd(nat.Mul(mixed, full[:7]), nat.Mul(mixed, full[:8])); !isValue(got, new(big.Int).Mul(w, value([]uint64{top}))) {
		t.Error("P2.1: Gcd of over 1030 limbs")
	}
	high := append(make([]uint64, 1500), 24)
	if got := Gcd(high, append(make([]uint64, 1600), 1)); !isValue(got, value(append(make([]uint64, 1500), 8))) {
		t.Error("P2.1: Gcd of two with over 90000 zeros at the lower end")
	}
	if got := Zeros(high); got != 96003 {
		t.Errorf("P2.1: Zeros of 24 times 2^96000 = %d", got)
	}
}

// P2.1: a natural is the same one, whatever zeros stand at its end.
func TestZerosAtTheEndAreOfNoMatter(t *testing.T) {
	all := samples(30, 5)
	for _, a := range all {
		for _, b := range all {
			longA, longB := append(slices.Clone(a), 0, 0), append(slices.Clone(b), 0)
			for name, call := range calls() {
				got, want := call(longA, longB), call(a, b)
				if !slices.EqualFunc(got, want, same) {
					t.Fatalf("P2.1: %s of %v, %v with zeros at the end", name, a, b)
				}
			}
			if Zeros(longA) != Zeros(a) {
				t.Fatalf("P2.1: Zeros of %v with zeros at the end", a)
			}
		}
	}
}

// P2.2: quotient times divisor, and the rest, is the number; the rest is less.

func TestDividedPutTogether(t *testing.T) {
	all := samples(200, 8)
	for _, a := range all {
		for _, b := range all {
			quotient, rest, err := DivMod(a, b)
			if nat.Bits(b) == 0 {
				if err != api.ErrZero {
					t.Fatalf("P2.2: DivMod(%v, %v) tells %d", a, b, err)
				}
				continue
			}
			if !same(nat.Add(nat.Mul(quotient, b), rest), nat.Norm(a)) {
				t.Fatalf("P2.2: DivMod(%v, %v) = %v, %v, which is not the number", a, b, quotient, rest)
			}
			if nat.Cmp(rest, b) >= 0 {
				t.Fatalf("P2.2: DivMod(%v, %v): the rest %v is not less", a, b, rest)
			}
		}
	}
}

func TestMultiplesDivide(t *testing.T) {
	all := samples(60, 6)
	for _, a := range all {
		for _, b := range all {
			if nat.Bits(b) == 0 {
				continue
			}
			// A rest that is less, added to a multiple, comes out again.
			less := nat.Sub(b, []uint64{1})
			quotient, rest, err := DivMod(nat.Add(nat.Mul(a, b), less), b)
			if err != api.OK || !same(quotient, nat.Norm(a)) || !same(rest, less) {
				t.Fatalf("P2.2: %v times %v and %v, divided: %v, %v", a, b, less, quotient, rest)
			}
		}
	}
}

// P2.2, of the other calls: what they answer fits together.

func TestShiftsAndDivisionFit(t *testing.T) {
	for _, a := range samples(60, 6) {
		for _, n := range shifts() {
			power, _ := Shl([]uint64{1}, n)
			up, _ := Shl(a, n)
			down, _ := Shr(a, n)
			back, _ := Shr(up, n)
			quotient, _, _ := DivMod(a, power)
			if !same(up, nat.Mul(a, power)) || !same(down, quotient) || !same(back, nat.Norm(a)) {
				t.Fatalf("P2.2: %v shifted by %d: %v, %v, back %v", a, n, up, down, back)
			}
		}
	}
}

func TestRootsFit(t *testing.T) {
	for _, a := range samples(400, 8) {
		root, rest := Sqrt(a)
		if !same(nat.Add(nat.Mul(root, root), rest), nat.Norm(a)) || nat.Cmp(rest, nat.Add(root, root)) > 0 {
			t.Fatalf("P2.2: Sqrt(%v) = %v, %v", a, root, rest)
		}
	}
}

func TestCommonDivisorsFit(t *testing.T) {
	all := samples(40, 5)
	for _, a := range all {
		for _, b := range all {
			g := Gcd(a, b)
			if nat.Bits(g) == 0 {
				if nat.Bits(a) != 0 || nat.Bits(b) != 0 {
					t.Fatalf("P2.2: Gcd(%v, %v) = 0", a, b)
				}
				continue
			}
			left, restA, _ := DivMod(a, g)
			right, restB, _ := DivMod(b, g)
			if len(restA) != 0 || len(restB) != 0 || !same(Gcd(left, right), []uint64{1}) || !same(Gcd(b, a), g) {
				t.Fatalf("P2.2: Gcd(%v, %v) = %v", a, b, g)
			}
		}
	}
}

// P2.3: what is handed in stays as it is, and an answer is new memory.

// calls are the calls that answer lists, all of them with two arguments.
func calls() map[string]func(a, b []uint64) [][]uint64 {
	return map[string]func(a, b []uint64) [][]uint64{
		"Shl": func(a, b []uint64) [][]uint64 {
			var out [][]uint64
			for _, n := range []int{0, 1, 64, 77} {
				got, _ := Shl(a, n)
				out = append(out, got)
			}
			return out
		},
		"Shr": func(a, b []uint64) [][]uint64 {
			var out [][]uint64
			for _, n := range []int{0, 1, 64, 77} {
				got, _ := Shr(a, n)
				out = append(out, got)
			}
			return out
		},
		"DivMod": func(a, b []uint64) [][]uint64 {
			quotient, rest, _ := DivMod(a, b)
			return [][]uint64{quotient, rest}
		},
		"Sqrt": func(a, b []uint64) [][]uint64 {
			root, rest := Sqrt(a)
			return [][]uint64{root, rest}
		},
		"Gcd": func(a, b []uint64) [][]uint64 {
			return [][]uint64{Gcd(a, b)}
		},
	}
}

// roomy is a copy of a with limbs behind its end, in the same memory.
func roomy(a []uint64) []uint64 {
	return append(slices.Clone(a), 11, 22, 33)[:len(a)]
}

// spoil writes over all the memory of a, up to its capacity.
func spoil(a []uint64) {
	a = a[:cap(a)]
	for i := range a {
		a[i] = ^a[i]
	}
}

// copies are copies of all lists.
func copies(lists [][]uint64) [][]uint64 {
	var out [][]uint64
	for _, l := range lists {
		out = append(out, slices.Clone(l))
	}
	return out
}

func TestArgumentsStay(t *testing.T) {
	all := samples(30, 5)
	for _, first := range all {
		for _, second := range all {
			a, b := roomy(first), roomy(second)
			wholeA, wholeB := slices.Clone(a[:len(a)+3]), slices.Clone(b[:len(b)+3])
			for name, call := range calls() {
				call(a, b)
				Zeros(a)
				if !same(a[:len(a)+3], wholeA) || !same(b[:len(b)+3], wholeB) {
					t.Fatalf("P2.3: %s changes %v, %v", name, first, second)
				}
			}
		}
	}
}

func TestAnswersAreNew(t *testing.T) {
	all := samples(30, 5)
	for name, call := range calls() {
		for _, first := range all {
			for _, second := range all {
				a, b := roomy(first), roomy(second)
				got, other := call(a, b), call(a, b)
				want := copies(other)
				for i := range got {
					spoil(got[i])
					if i+1 < len(got) && !same(got[i+1], want[i+1]) {
						t.Fatalf("P2.3: two lists that %s answers share memory: %v, %v", name, first, second)
					}
				}
				if !same(a, first) || !same(b, second) || !slices.EqualFunc(other, want, same) {
					t.Fatalf("P2.3: what %s answers shares memory: %v, %v", name, first, second)
				}
				spoil(a)
				spoil(b)
				if !slices.EqualFunc(other, want, same) {
					t.Fatalf("P2.3: what %s answers is an argument's memory: %v, %v", name, first, second)
				}
			}
		}
	}
}

func TestArgumentsThatShare(t *testing.T) {
	for _, whole := range samples(100, 7) {
		kept := slices.Clone(whole)
		low, high := whole[:len(whole)*2/3], whole[len(whole)/3:]
		apartLow, apartHigh := slices.Clone(low), slices.Clone(high)
		for name, call := range calls() {
			if !slices.EqualFunc(call(low, high), call(apartLow, apartHigh), same) {
				t.Fatalf("P2.3: %s of two parts of %v", name, kept)
			}
			if !slices.EqualFunc(call(whole, whole), call(kept, slices.Clone(kept)), same) {
				t.Fatalf("P2.3: %s of %v with itself", name, kept)
			}
		}
		if !same(whole, kept) {
			t.Fatalf("P2.3: %v was changed", kept)
		}
	}
}
