package nat

import (
	"math/big"
	"slices"
	"testing"
)

const top = ^uint64(0)

// value is the number that limbs stand for, reckoned by another program.
func value(a []uint64) *big.Int {
	v := new(big.Int)
	for i := len(a) - 1; i >= 0; i-- {
		v.Lsh(v, 64)
		v.Or(v, new(big.Int).SetUint64(a[i]))
	}
	return v
}

// isValue tells whether a is just v, without zeros at the end.
func isValue(a []uint64, v *big.Int) bool {
	if len(a) > 0 && a[len(a)-1] == 0 {
		return false
	}
	return value(a).Cmp(v) == 0
}

// source is a rule of numbers that look mixed, the same in every run.
type source uint64

func (s *source) next() uint64 {
	*s += 0x9e3779b97f4a7c15
	z := uint64(*s)
	z = (z ^ z>>30) * 0xbf58476d1ce4e5b9
	z = (z ^ z>>27) * 0x94d049bb133111eb
	return z ^ z>>31
}

// limbs makes up to most limbs; the edges of a limb come up often, at the end too.
func (s *source) limbs(most int) []uint64 {
	out := make([]uint64, s.next()%uint64(most+1))
	for i := range out {
		switch s.next() % 6 {
		case 0:
			out[i] = 0
		case 1:
			out[i] = top
		case 2:
			out[i] = 1 << (s.next() % 64)
		case 3:
			out[i] = top << (s.next() % 64)
		default:
			out[i] = s.next()
		}
	}
	return out
}

// edges are lists in which each edge of the chapter stands at least once.
func edges() [][]uint64 {
	return [][]uint64{
		nil, {}, {0}, {0, 0, 0},
		{1}, {1, 0}, {2}, {3}, {5}, {5, 0, 0},
		{1 << 63}, {top}, {top, 0}, {top - 1},
		{0, 1}, {0, 1, 0, 0}, {1, 1}, {top, 1}, {0, top}, {top, top}, {top, top, 0},
		{0, 0, 1}, {1, 0, 1}, {top, 0, 1}, {0, top, 1}, {0, 0, 1 << 63}, {top, top, top},
		{0, 0, 0, 1}, {0, 0, 0, top}, {top, 0, 0, top}, {top, top, top, top},
	}
}

// samples are the edges and a good many mixed lists.
func samples(count, most int) [][]uint64 {
	s := source(count)
	out := edges()
	for range count {
		out = append(out, s.limbs(most))
	}
	return out
}

func same(a, b []uint64) bool {
	return slices.Equal(a, b)
}

// P1.1: what the chapter says of each call, on numbers written out here.

func TestNormWrittenOut(t *testing.T) {
	for _, c := range []struct{ a, want []uint64 }{
		{nil, nil}, {[]uint64{}, nil}, {[]uint64{0}, nil}, {[]uint64{0, 0, 0}, nil},
		{[]uint64{7}, []uint64{7}}, {[]uint64{7, 0}, []uint64{7}},
		{[]uint64{0, 7, 0, 0}, []uint64{0, 7}}, {[]uint64{0, 0, 7}, []uint64{0, 0, 7}},
		{[]uint64{top, 0, 1, 0}, []uint64{top, 0, 1}},
	} {
		if got := Norm(c.a); !same(got, c.want) {
			t.Errorf("P1.1: Norm(%v) = %v, want %v", c.a, got, c.want)
		}
	}
}

func TestCmpWrittenOut(t *testing.T) {
	for _, c := range []struct {
		a, b []uint64
		want int
	}{
		{nil, nil, 0}, {nil, []uint64{0, 0}, 0}, {[]uint64{}, []uint64{1}, -1}, {[]uint64{1}, nil, 1},
		{[]uint64{3}, []uint64{5}, -1}, {[]uint64{5}, []uint64{3}, 1}, {[]uint64{5, 0}, []uint64{5}, 0},
		{[]uint64{1 << 63}, []uint64{1}, 1}, {[]uint64{top}, []uint64{0, 1}, -1},
		{[]uint64{9, 0, 0}, []uint64{0, 1}, -1}, {[]uint64{0, 2}, []uint64{top, 1}, 1},
		{[]uint64{1, 7}, []uint64{2, 7}, -1}, {[]uint64{2, 7}, []uint64{1, 7, 0}, 1},
	} {
		if got := Cmp(c.a, c.b); got != c.want {
			t.Errorf("P1.1: Cmp(%v, %v) = %d, want %d", c.a, c.b, got, c.want)
		}
	}
}

func TestTwoWrittenOut(t *testing.T) {
	calls := map[string]func(a, b []uint64) []uint64{"Add": Add, "Sub": Sub, "Mul": Mul}
	for _, c := range []struct {
		call       string
		a, b, want []uint64
	}{
		{"Sub", []uint64{3}, []uint64{5}, []uint64{2}}, // the chapter's example
		{"Sub", []uint64{5}, []uint64{3}, []uint64{2}},
		{"Sub", nil, nil, nil}, {"Sub", nil, []uint64{4, 0}, []uint64{4}}, {"Sub", []uint64{4}, []uint64{0}, []uint64{4}},
		{"Sub", []uint64{6, 0}, []uint64{6}, nil}, {"Sub", []uint64{1, 8}, []uint64{1, 8}, nil},
		{"Sub", []uint64{0, 1}, []uint64{1}, []uint64{top}}, {"Sub", []uint64{1}, []uint64{0, 0, 1}, []uint64{top, top}},
		{"Sub", []uint64{0, 9}, []uint64{5, 9}, []uint64{5}},
		{"Add", nil, nil, nil}, {"Add", []uint64{0, 0}, []uint64{0}, nil}, {"Add", nil, []uint64{4, 0}, []uint64{4}},
		{"Add", []uint64{3}, []uint64{5}, []uint64{8}}, {"Add", []uint64{top}, []uint64{1}, []uint64{0, 1}},
		{"Add", []uint64{1}, []uint64{top, top}, []uint64{0, 0, 1}}, {"Add", []uint64{top, top}, []uint64{top, top}, []uint64{top - 1, top, 1}},
		{"Mul", nil, nil, nil}, {"Mul", nil, []uint64{4}, nil}, {"Mul", []uint64{top, top}, []uint64{0, 0}, nil},
		{"Mul", []uint64{3}, []uint64{5, 0}, []uint64{15}}, {"Mul", []uint64{1}, []uint64{0, top}, []uint64{0, top}},
		{"Mul", []uint64{top}, []uint64{top}, []uint64{1, top - 1}}, {"Mul", []uint64{0, 1}, []uint64{0, 0, 7}, []uint64{0, 0, 0, 7}},
		{"Mul", []uint64{top, top}, []uint64{top, top}, []uint64{1, 0, top - 1, top}},
	} {
		if got := calls[c.call](c.a, c.b); !same(got, c.want) {
			t.Errorf("P1.1: %s(%v, %v) = %v, want %v", c.call, c.a, c.b, got, c.want)
		}
	}
}

func TestBitsWrittenOut(t *testing.T) {
	for _, c := range []struct {
		a    []uint64
		want int
	}{
		{nil, 0}, {[]uint64{}, 0}, {[]uint64{0}, 0}, {[]uint64{0, 0, 0}, 0},
		{[]uint64{1}, 1}, {[]uint64{2}, 2}, {[]uint64{3, 0}, 2}, {[]uint64{1 << 63}, 64}, {[]uint64{top, 0, 0}, 64},
		{[]uint64{0, 1}, 65}, {[]uint64{top, 1 << 63}, 128}, {[]uint64{0, 0, 4, 0}, 131},
	} {
		if got := Bits(c.a); got != c.want {
			t.Errorf("P1.1: Bits(%v) = %d, want %d", c.a, got, c.want)
		}
	}
}

func TestEvenWrittenOut(t *testing.T) {
	for _, c := range []struct {
		a    []uint64
		want bool
	}{
		{nil, true}, {[]uint64{}, true}, {[]uint64{0}, true}, {[]uint64{0, 0}, true},
		{[]uint64{1}, false}, {[]uint64{2}, true}, {[]uint64{top}, false}, {[]uint64{top - 1}, true},
		{[]uint64{0, 1}, true}, {[]uint64{1, 2, 0}, false}, {[]uint64{2, 1}, true},
	} {
		if got := Even(c.a); got != c.want {
			t.Errorf("P1.1: Even(%v) = %v, want %v", c.a, got, c.want)
		}
	}
}

// P1.1: every call against numbers that another program reckons.

func TestOneAgainstNumbers(t *testing.T) {
	for _, a := range samples(400, 9) {
		v := value(a)
		if got := Norm(a); !isValue(got, v) {
			t.Errorf("P1.1: Norm(%v) = %v", a, got)
		}
		if got := Bits(a); got != v.BitLen() {
			t.Errorf("P1.1: Bits(%v) = %d, want %d", a, got, v.BitLen())
		}
		if got := Even(a); got != (v.Bit(0) == 0) {
			t.Errorf("P1.1: Even(%v) = %v", a, got)
		}
	}
}

func TestTwoAgainstNumbers(t *testing.T) {
	all := samples(120, 9)
	for _, a := range all {
		for _, b := range all {
			v, w := value(a), value(b)
			if got := Cmp(a, b); got != v.Cmp(w) {
				t.Fatalf("P1.1: Cmp(%v, %v) = %d, want %d", a, b, got, v.Cmp(w))
			}
			if got := Add(a, b); !isValue(got, new(big.Int).Add(v, w)) {
				t.Fatalf("P1.1: Add(%v, %v) = %v", a, b, got)
			}
			far := new(big.Int).Sub(v, w)
			if got := Sub(a, b); !isValue(got, far.Abs(far)) {
				t.Fatalf("P1.1: Sub(%v, %v) = %v", a, b, got)
			}
			if got := Mul(a, b); !isValue(got, new(big.Int).Mul(v, w)) {
				t.Fatalf("P1.1: Mul(%v, %v) = %v", a, b, got)
			}
		}
	}
}

func TestLongAgainstNumbers(t *testing.T) {
	full := slices.Repeat([]uint64{top}, 1500)
	for _, b := range [][]uint64{full, full[:700], {1}, slices.Repeat([]uint64{0}, 3000)} {
		v, w := value(full), value(b)
		if got := Add(full, b); !isValue(got, new(big.Int).Add(v, w)) {
			t.Errorf("P1.1: Add of %d and %d full limbs", len(full), len(b))
		}
		if got := Sub(b, full); !isValue(got, new(big.Int).Sub(v, w)) {
			t.Errorf("P1.1: Sub of %d and %d full limbs", len(b), len(full))
		}
		if got := Mul(full, b); !isValue(got, new(big.Int).Mul(v, w)) {
			t.Errorf("P1.1: Mul of %d and %d full limbs", len(full), len(b))
		}
	}
	if got := Bits(full); got != 64*1500 {
		t.Errorf("P1.1: Bits of 1500 full limbs = %d", got)
	}
}

// P1.2: in any order, put together in any way.

func TestAnyOrder(t *testing.T) {
	all := samples(120, 7)
	for _, a := range all {
		for _, b := range all {
			if !same(Add(a, b), Add(b, a)) {
				t.Fatalf("P1.2: Add of %v, %v in the other order", a, b)
			}
			if !same(Mul(a, b), Mul(b, a)) {
				t.Fatalf("P1.2: Mul of %v, %v in the other order", a, b)
			}
		}
	}
}

func TestPutTogetherAnyWay(t *testing.T) {
	all := samples(20, 5)
	for _, a := range all {
		for _, b := range all {
			for _, c := range all {
				if !same(Add(Add(a, b), c), Add(a, Add(b, c))) {
					t.Fatalf("P1.2: sums of %v, %v, %v", a, b, c)
				}
				if !same(Mul(Mul(a, b), c), Mul(a, Mul(b, c))) {
					t.Fatalf("P1.2: products of %v, %v, %v", a, b, c)
				}
				if !same(Mul(a, Add(b, c)), Add(Mul(a, b), Mul(a, c))) {
					t.Fatalf("P1.2: the product of %v with the sum of %v, %v", a, b, c)
				}
			}
		}
	}
}

func TestZeroAndOne(t *testing.T) {
	for _, a := range samples(200, 7) {
		for _, none := range [][]uint64{nil, {}, {0}, {0, 0}} {
			if !same(Add(a, none), Norm(a)) || !same(Sub(none, a), Norm(a)) || len(Mul(a, none)) != 0 {
				t.Fatalf("P1.2: %v with 0 as %v", a, none)
			}
		}
		if !same(Mul(a, []uint64{1, 0}), Norm(a)) {
			t.Fatalf("P1.2: %v times 1", a)
		}
	}
}

func TestWhatIsAddedIsFarOff(t *testing.T) {
	all := samples(120, 7)
	for _, a := range all {
		for _, b := range all {
			if sum := Add(a, b); !same(Sub(sum, a), Norm(b)) || !same(Sub(a, sum), Norm(b)) {
				t.Fatalf("P1.2: %v and %v, less the first", a, b)
			}
		}
	}
}

// P1.3: what is handed in stays as it is, and an answer is new memory.

// lists are the calls that answer a list, all of them with two arguments.
func lists() map[string]func(a, b []uint64) []uint64 {
	return map[string]func(a, b []uint64) []uint64{
		"Norm": func(a, b []uint64) []uint64 { return Norm(a) },
		"Add":  Add,
		"Sub":  Sub,
		"Mul":  Mul,
	}
}

// roomy is a copy of a with limbs behind its end, in the same memory.
func roomy(a []uint64) []uint64 {
	return append(slices.Clone(a), 11, 22, 33)[:len(a)]
}

// spoil writes over all the memory of a, up to its capacity.
func spoil(a []uint64) {
	a = a[:cap(a)]
	for i := range a {
		a[i] = ^a[i]
	}
}

func TestArgumentsStay(t *testing.T) {
	all := samples(30, 5)
	for _, first := range all {
		for _, second := range all {
			a, b := roomy(first), roomy(second)
			wholeA, wholeB := slices.Clone(a[:len(a)+3]), slices.Clone(b[:len(b)+3])
			for _, call := range lists() {
				call(a, b)
			}
			Cmp(a, b)
			Bits(a)
			Even(a)
			if !same(a[:len(a)+3], wholeA) || !same(b[:len(b)+3], wholeB) {
				t.Fatalf("P1.3: %v, %v were changed", first, second)
			}
		}
	}
}

func TestAnswersAreNew(t *testing.T) {
	all := samples(30, 5)
	for name, call := range lists() {
		for _, first := range all {
			for _, second := range all {
				a, b := roomy(first), roomy(second)
				got, other := call(a, b), call(a, b)
				want := slices.Clone(got)
				spoil(got)
				if !same(a, first) || !same(b, second) || !same(other, want) {
					t.Fatalf("P1.3: what %s answers shares memory: %v, %v", name, first, second)
				}
				spoil(a)
				spoil(b)
				if !same(other, want) {
					t.Fatalf("P1.3: what %s answers is an argument's memory: %v, %v", name, first, second)
				}
			}
		}
	}
}

func TestArgumentsThatShare(t *testing.T) {
	for _, whole := range samples(100, 7) {
		kept := slices.Clone(whole)
		low, high := whole[:len(whole)*2/3], whole[len(whole)/3:]
		apartLow, apartHigh := slices.Clone(low), slices.Clone(high)
		for name, call := range lists() {
			if !same(call(low, high), call(apartLow, apartHigh)) {
				t.Fatalf("P1.3: %s of two parts of %v", name, kept)
			}
			if !same(call(whole, whole), call(kept, slices.Clone(kept))) {
				t.Fatalf("P1.3: %s of %v with itself", name, kept)
			}
		}
		if !same(whole, kept) {
			t.Fatalf("P1.3: %v was changed", kept)
		}
	}
}

// P1.1: a natural is the same one, whatever zeros stand at its end.
func TestZerosAtTheEndAreOfNoMatter(t *testing.T) {
	all := samples(30, 5)
	for _, a := range all {
		for _, b := range all {
			longA, longB := append(slices.Clone(a), 0, 0), append(slices.Clone(b), 0)
			for name, call := range lists() {
				if !same(call(longA, longB), call(a, b)) {
					t.Fatalf("P1.1: %s of %v, %v with zeros at the end", name, a, b)
				}
			}
			if Cmp(longA, b) != Cmp(a, b) || Cmp(a, longB) != Cmp(a, b) || Bits(longA) != Bits(a) || Even(longA) != Even(a) {
				t.Fatalf("P1.1: Cmp, Bits or Even of %v, %v with zeros at the end", a, b)
			}
		}
	}
}
