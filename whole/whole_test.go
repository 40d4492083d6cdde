package whole

import (
	"math"
	"math/big"
	"slices"
	"testing"

	"vernier/api"
)

const top = ^uint64(0)

// plus and minus are whole numbers with the limbs given, just as they come.
func plus(limbs ...uint64) api.Whole  { return api.Whole{Abs: limbs} }
func minus(limbs ...uint64) api.Whole { return api.Whole{Neg: true, Abs: limbs} }

// value is the number that a stands for, reckoned by another program.
func value(a api.Whole) *big.Int {
	v := new(big.Int)
	for i := len(a.Abs) - 1; i >= 0; i-- {
		v.Lsh(v, 64)
		v.Or(v, new(big.Int).SetUint64(a.Abs[i]))
	}
	if a.Neg {
		v.Neg(v)
	}
	return v
}

// isTold tells whether a is told as the chapter says: no zeros at the end, and
// of 0 no sign.
func isTold(a api.Whole) bool {
	if len(a.Abs) == 0 {
		return !a.Neg
	}
	return a.Abs[len(a.Abs)-1] != 0
}

// isValue tells whether a is just v, and told so.
func isValue(a api.Whole, v *big.Int) bool {
	return isTold(a) && value(a).Cmp(v) == 0
}

// same tells whether a and b are the same, field by field and limb by limb.
func same(a, b api.Whole) bool {
	return a.Neg == b.Neg && slices.Equal(a.Abs, b.Abs)
}

// source is a rule of numbers that look mixed, the same in every run.
type source uint64

func (s *source) next() uint64 {
	*s += 0x9e3779b97f4a7c15
	z := uint64(*s)
	z = (z ^ z>>30) * 0xbf58476d1ce4e5b9
	z = (z ^ z>>27) * 0x94d049bb133111eb
	return z ^ z>>31
}

// limbs makes up to most limbs; the edges of a limb come up often, at the end too.
func (s *source) limbs(most int) []uint64 {
	out := make([]uint64, s.next()%uint64(most+1))
	for i := range out {
		switch s.next() % 6 {
		case 0:
			out[i] = 0
		case 1:
			out[i] = top
		case 2:
			out[i] = 1 << (s.next() % 64)
		default:
			out[i] = s.next()
		}
	}
	return out
}

// edges are numbers in which each edge of the chapter stands at least once,
// with either sign: 0 in all its forms, and zeros at the end.
func edges() []api.Whole {
	var out []api.Whole
	for _, limbs := range [][]uint64{
		nil, {}, {0}, {0, 0, 0},
		{1}, {1, 0}, {2}, {3}, {5}, {5, 0, 0},
		{1 << 63}, {1<<63 - 1}, {1<<63 + 1}, {top}, {top, 0}, {top - 1},
		{0, 1}, {0, 1, 0, 0}, {1, 1}, {top, 1}, {0, top}, {top, top}, {top, top, 0},
		{0, 0, 1}, {1, 0, 1}, {top, 0, 1}, {top, top, top}, {0, 0, 0, top},
	} {
		out = append(out, plus(slices.Clone(limbs)...), minus(slices.Clone(limbs)...))
	}
	return out
}

// samples are the edges and a good many mixed numbers.
func samples(count, most int) []api.Whole {
	s := source(count)
	out := edges()
	for range count {
		out = append(out, api.Whole{Neg: s.next()%2 == 0, Abs: s.limbs(most)})
	}
	return out
}

// P3.1: what the chapter says of each call, on numbers written out here.

func TestOneWrittenOut(t *testing.T) {
	for _, c := range []struct {
		a, norm, neg api.Whole
		sign         int
	}{
		{plus(), plus(), plus(), 0}, {minus(), plus(), plus(), 0},
		{plus([]uint64{}...), plus(), plus(), 0}, {minus([]uint64{}...), plus(), plus(), 0},
		{plus(0), plus(), plus(), 0}, {minus(0), plus(), plus(), 0},
		{plus(0, 0, 0), plus(), plus(), 0}, {minus(0, 0, 0), plus(), plus(), 0},
		{plus(1), plus(1), minus(1), 1}, {minus(1), minus(1), plus(1), -1},
		{plus(7, 0), plus(7), minus(7), 1}, {minus(7, 0, 0), minus(7), plus(7), -1},
		{plus(1 << 63), plus(1 << 63), minus(1 << 63), 1}, {minus(top), minus(top), plus(top), -1},
		{plus(0, 9), plus(0, 9), minus(0, 9), 1}, {minus(0, 9), minus(0, 9), plus(0, 9), -1},
		{plus(0, 0, 1, 0), plus(0, 0, 1), minus(0, 0, 1), 1}, {minus(top, 0, 1, 0), minus(top, 0, 1), plus(top, 0, 1), -1},
	} {
		if got := Norm(c.a); !same(got, c.norm) {
			t.Errorf("P3.1: Norm(%v) = %v, want %v", c.a, got, c.norm)
		}
		if got := Neg(c.a); !same(got, c.neg) {
			t.Errorf("P3.1: Neg(%v) = %v, want %v", c.a, got, c.neg)
		}
		if got := Sign(c.a); got != c.sign {
			t.Errorf("P3.1: Sign(%v) = %d, want %d", c.a, got, c.sign)
		}
	}
}

func TestOfWrittenOut(t *testing.T) {
	for _, c := range []struct {
		n    int
		want api.Whole
	}{
		{0, plus()}, {1, plus(1)}, {-1, minus(1)}, {5, plus(5)}, {-12, minus(12)},
		{math.MaxInt32, plus(1<<31 - 1)}, {math.MinInt32, minus(1 << 31)},
		{math.MaxInt, plus(1<<63 - 1)}, {-math.MaxInt, minus(1<<63 - 1)}, {math.MinInt, minus(1 << 63)}, {math.MinInt + 1, minus(1<<63 - 1)},
	} {
		if got := Of(c.n); !same(got, c.want) {
			t.Errorf("P3.1: Of(%d) = %v, want %v", c.n, got, c.want)
		}
	}
}

func TestCmpWrittenOut(t *testing.T) {
	for _, c := range []struct {
		a, b api.Whole
		want int
	}{
		{plus(), plus(), 0}, {plus(), minus(), 0}, {minus(0), plus(0, 0), 0}, {minus(0), minus(), 0},
		{plus(), plus(1), -1}, {minus(0), plus(1), -1}, {plus(0), minus(1), 1}, {minus(), minus(1), 1},
		{minus(1), minus(0), -1}, {minus(1), plus(0, 0), -1}, {plus(1), minus(0, 0), 1},
		{plus(3), plus(5), -1}, {minus(3), minus(5), 1}, {minus(5), minus(3), -1}, {minus(5), plus(3), -1}, {plus(3), minus(5), 1},
		{plus(5), minus(5), 1}, {minus(5, 0), minus(5), 0}, {plus(5), plus(5, 0, 0), 0},
		{plus(top), plus(0, 1), -1}, {minus(top), minus(0, 1), 1}, {minus(top, 0, 0), minus(0, 1), 1}, {minus(0, 1), plus(1), -1},
		{plus(1), minus(0, 0, 1), 1}, {minus(2, 7), minus(1, 7), -1}, {minus(0, 2), minus(top, 1), -1},
	} {
		if got := Cmp(c.a, c.b); got != c.want {
			t.Errorf("P3.1: Cmp(%v, %v) = %d, want %d", c.a, c.b, got, c.want)
		}
	}
}

func TestTwoWrittenOut(t *testing.T) {
	for _, c := range []struct {
		a, b, sum, diff, product api.Whole
	}{
		{plus(3), plus(5), plus(8), minus(2), plus(15)}, // the chapter's example
		{plus(5), plus(3), plus(8), plus(2), plus(15)},
		{minus(3), plus(5), plus(2), minus(8), minus(15)},
		{plus(3), minus(5), minus(2), plus(8), minus(15)},
		{minus(3), minus(5), minus(8), plus(2), plus(15)},
		{minus(5), minus(3), minus(8), minus(2), plus(15)},
		{minus(5), plus(3), minus(2), minus(8), minus(15)},
		{plus(6, 0), plus(6), plus(12), plus(), plus(36)}, {minus(6), minus(6, 0), minus(12), plus(), plus(36)},
		{minus(6), plus(6, 0, 0), plus(), minus(12), minus(36)}, {plus(6), minus(6), plus(), plus(12), minus(36)},
		{plus(), plus(), plus(), plus(), plus()}, {minus(), minus(0), plus(), plus(), plus()},
		{plus(0), minus(0, 0), plus(), plus(), plus()}, {minus(0), plus([]uint64{}...), plus(), plus(), plus()},
		{minus(0), plus(4), plus(4), minus(4), plus()}, {minus(0), minus(4), minus(4), plus(4), plus()},
		{plus(4, 0), minus(), plus(4), plus(4), plus()}, {minus(4, 0), minus(0), minus(4), minus(4), plus()},
		{plus(0), minus(4), minus(4), plus(4), plus()}, {minus(4), plus(0, 0), minus(4), minus(4), plus()},
		{plus(top), plus(1), plus(0, 1), plus(top - 1), plus(top)},
		{minus(top), minus(1), minus(0, 1), minus(top - 1), plus(top)},
		{plus(0, 0, 1), minus(1), plus(top, top), plus(1, 0, 1), minus(0, 0, 1)},
		{minus(1), plus(0, 0, 1), plus(top, top), minus(1, 0, 1), minus(0, 0, 1)},
		{minus(0, 0, 1), plus(1), minus(top, top), minus(1, 0, 1), minus(0, 0, 1)},
		{minus(top), minus(top, 0), minus(top-1, 1), plus(), plus(1, top-1)},
	} {
		if got := Add(c.a, c.b); !same(got, c.sum) {
			t.Errorf("P3.1: Add(%v, %v) = %v, want %v", c.a, c.b, got, c.sum)
		}
		if got := Sub(c.a, c.b); !same(got, c.diff) {
			t.Errorf("P3.1: Sub(%v, %v) = %v, want %v", c.a, c.b, got, c.diff)
		}
		if got := Mul(c.a, c.b); !same(got, c.product) {
			t.Errorf("P3.1: Mul(%v, %v) = %v, want %v", c.a, c.b, got, c.product)
		}
	}
}

// P3.1: every call against numbers that another program reckons.

func TestOneAgainstNumbers(t *testing.T) {
	for _, a := range samples(400, 9) {
		v := value(a)
		if got := Norm(a); !isValue(got, v) {
			t.Errorf("P3.1: Norm(%v) = %v", a, got)
		}
		if got := Neg(a); !isValue(got, new(big.Int).Neg(v)) {
			t.Errorf("P3.1: Neg(%v) = %v", a, got)
		}
		if got := Sign(a); got != v.Sign() {
			t.Errorf("P3.1: Sign(%v) = %d, want %d", a, got, v.Sign())
		}
	}
}

func TestOfAgainstNumbers(t *testing.T) {
	s := source(1)
	for range 2000 {
		n := int(s.next()) >> (s.next() % 64)
		if got := Of(n); !isValue(got, big.NewInt(int64(n))) {
			t.Errorf("P3.1: Of(%d) = %v", n, got)
		}
	}
}

func TestTwoAgainstNumbers(t *testing.T) {
	all := samples(120, 9)
	for _, a := range all {
		for _, b := range all {
			v, w := value(a), value(b)
			if got := Cmp(a, b); got != v.Cmp(w) {
				t.Fatalf("P3.1: Cmp(%v, %v) = %d, want %d", a, b, got, v.Cmp(w))
			}
			if got := Add(a, b); !isValue(got, new(big.Int).Add(v, w)) {
				t.Fatalf("P3.1: Add(%v, %v) = %v", a, b, got)
			}
			if got := Sub(a, b); !isValue(got, new(big.Int).Sub(v, w)) {
				t.Fatalf("P3.1: Sub(%v, %v) = %v", a, b, got)
			}
			if got := Mul(a, b); !isValue(got, new(big.Int).Mul(v, w)) {
				t.Fatalf("P3.1: Mul(%v, %v) = %v", a, b, got)
			}
		}
	}
}

// Naturals have no greatest length in this layer, so neither have these.
func TestLongAgainstNumbers(t *testing.T) {
	full := slices.Repeat([]uint64{top}, 1500)
	for _, a := range []api.Whole{plus(full...), minus(full...)} {
		for _, b := range []api.Whole{plus(full[:700]...), minus(full[:700]...), minus(full...), plus(1), minus(1), minus(make([]uint64, 3000)...)} {
			v, w := value(a), value(b)
			if got := Add(b, a); !isValue(got, new(big.Int).Add(v, w)) {
				t.Errorf("P3.1: Add of %d and %d limbs", len(b.Abs), len(a.Abs))
			}
			if got := Sub(b, a); !isValue(got, new(big.Int).Sub(w, v)) {
				t.Errorf("P3.1: Sub of %d and %d limbs", len(b.Abs), len(a.Abs))
			}
			if got := Mul(b, a); !isValue(got, new(big.Int).Mul(v, w)) {
				t.Errorf("P3.1: Mul of %d and %d limbs", len(b.Abs), len(a.Abs))
			}
			if got := Cmp(b, a); got != w.Cmp(v) {
				t.Errorf("P3.1: Cmp of %d and %d limbs = %d", len(b.Abs), len(a.Abs), got)
			}
		}
	}
}

// otherForms are a with zeros at the end, and if it is 0 with the other sign.
func otherForms(a api.Whole) []api.Whole {
	long := api.Whole{Neg: a.Neg, Abs: append(slices.Clone(a.Abs), 0, 0)}
	out := []api.Whole{long}
	if value(a).Sign() == 0 {
		out = append(out, api.Whole{Neg: !a.Neg, Abs: a.Abs}, api.Whole{Neg: !a.Neg, Abs: long.Abs})
	}
	return out
}

// P3.1: a number is the same one, whatever zeros stand at its end, and 0 is,
// whatever sign it bears.
func TestFormsAreOfNoMatter(t *testing.T) {
	all := samples(30, 5)
	for _, a := range all {
		for _, b := range all {
			for _, otherA := range otherForms(a) {
				for _, otherB := range otherForms(b) {
					for name, call := range calls() {
						if got, want := call(otherA, otherB), call(a, b); !same(got, want) {
							t.Fatalf("P3.1: %s(%v, %v) = %v, want %v", name, otherA, otherB, got, want)
						}
					}
					if Cmp(otherA, b) != Cmp(a, b) || Cmp(a, otherB) != Cmp(a, b) || Sign(otherA) != Sign(a) {
						t.Fatalf("P3.1: Cmp or Sign of %v, %v in other forms", a, b)
					}
				}
			}
		}
	}
}

// P3.2: what is taken away, put back, is there.

func TestPutBack(t *testing.T) {
	all := samples(150, 7)
	for _, a := range all {
		for _, b := range all {
			if got := Add(Sub(a, b), b); !same(got, Norm(a)) {
				t.Fatalf("P3.2: %v less %v, put back, is %v", a, b, got)
			}
			if got := Sub(Add(a, b), b); !same(got, Norm(a)) {
				t.Fatalf("P3.2: %v and %v, taken away, is %v", a, b, got)
			}
			if got := Sub(a, Sub(a, b)); !same(got, Norm(b)) {
				t.Fatalf("P3.2: %v less what it is more than %v is %v", a, b, got)
			}
			if !same(Sub(a, b), Add(a, Neg(b))) || !same(Sub(a, b), Neg(Sub(b, a))) {
				t.Fatalf("P3.2: %v less %v is %v", a, b, Sub(a, b))
			}
			if Sign(Sub(a, b)) != Cmp(a, b) {
				t.Fatalf("P3.2: %v less %v has the sign %d, Cmp is %d", a, b, Sign(Sub(a, b)), Cmp(a, b))
			}
		}
	}
}

func TestTurnedTwice(t *testing.T) {
	for _, a := range samples(300, 7) {
		if !same(Neg(Neg(a)), Norm(a)) || !same(Add(a, Neg(a)), plus()) || !same(Sub(a, a), plus()) || Sign(Neg(a)) != -Sign(a) {
			t.Fatalf("P3.2: %v and its opposite %v", a, Neg(a))
		}
	}
}

func TestPutTogetherAnyWay(t *testing.T) {
	all := samples(5, 5)
	for _, a := range all {
		for _, b := range all {
			if !same(Add(a, b), Add(b, a)) || !same(Mul(a, b), Mul(b, a)) {
				t.Fatalf("P3.2: %v, %v in the other order", a, b)
			}
			for _, c := range all {
				if !same(Add(Add(a, b), c), Add(a, Add(b, c))) {
					t.Fatalf("P3.2: sums of %v, %v, %v", a, b, c)
				}
				if !same(Mul(a, Sub(b, c)), Sub(Mul(a, b), Mul(a, c))) {
					t.Fatalf("P3.2: %v times what %v is more than %v", a, b, c)
				}
			}
		}
	}
}

// P3.3: what is handed in stays as it is, and an answer is new memory.

// calls are the calls that answer a whole number of others, all of them with
// two arguments.
func calls() map[string]func(a, b api.Whole) api.Whole {
	return map[string]func(a, b api.Whole) api.Whole{
		"Norm": func(a, b api.Whole) api.Whole { return Norm(a) },
		"Neg":  func(a, b api.Whole) api.Whole { return Neg(a) },
		"Add":  Add,
		"Sub":  Sub,
		"Mul":  Mul,
	}
}

// roomy is a copy of a with limbs behind its end, in the same memory.
func roomy(a api.Whole) api.Whole {
	return api.Whole{Neg: a.Neg, Abs: append(slices.Clone(a.Abs), 11, 22, 33)[:len(a.Abs)]}
}

// copied is a copy of a.
func copied(a api.Whole) api.Whole {
	return api.Whole{Neg: a.Neg, Abs: slices.Clone(a.Abs)}
}

// spoil writes over all the memory of a, up to its capacity.
func spoil(a api.Whole) {
	limbs := a.Abs[:cap(a.Abs)]
	for i := range limbs {
		limbs[i] = ^limbs[i]
	}
}

func TestArgumentsStay(t *testing.T) {
	all := samples(30, 5)
	for _, first := range all {
		for _, second := range all {
			a, b := roomy(first), roomy(second)
			wholeA, wholeB := slices.Clone(a.Abs[:len(a.Abs)+3]), slices.Clone(b.Abs[:len(b.Abs)+3])
			for name, call := range calls() {
				call(a, b)
				Cmp(a, b)
				Sign(a)
				if !slices.Equal(a.Abs[:len(a.Abs)+3], wholeA) || !slices.Equal(b.Abs[:len(b.Abs)+3], wholeB) {
					t.Fatalf("P3.3: %s, Cmp or Sign changes %v, %v", name, first, second)
				}
			}
		}
	}
}

func TestAnswersAreNew(t *testing.T) {
	all := samples(30, 5)
	for name, call := range calls() {
		for _, first := range all {
			for _, second := range all {
				a, b := roomy(first), roomy(second)
				got, other := call(a, b), call(a, b)
				want := copied(got)
				spoil(got)
				if !same(a, first) || !same(b, second) || !same(other, want) {
					t.Fatalf("P3.3: what %s answers shares memory: %v, %v", name, first, second)
				}
				spoil(a)
				spoil(b)
				if !same(other, want) {
					t.Fatalf("P3.3: what %s answers is an argument's memory: %v, %v", name, first, second)
				}
			}
		}
	}
}

func TestOfAnswersNew(t *testing.T) {
	for _, n := range []int{0, 1, -1, 77, math.MaxInt, math.MinInt} {
		want := copied(Of(n))
		spoil(Of(n))
		if got := Of(n); !same(got, want) {
			t.Errorf("P3.3: Of(%d) = %v after its last answer was written over, want %v", n, got, want)
		}
	}
}

func TestArgumentsThatShare(t *testing.T) {
	for _, both := range samples(100, 7) {
		kept := copied(both)
		size := len(both.Abs)
		low := api.Whole{Neg: both.Neg, Abs: both.Abs[:size*2/3]}
		high := api.Whole{Neg: !both.Neg, Abs: both.Abs[size/3:]}
		for name, call := range calls() {
			if !same(call(low, high), call(copied(low), copied(high))) {
				t.Fatalf("P3.3: %s of two parts of %v", name, kept)
			}
			if !same(call(both, both), call(kept, copied(kept))) {
				t.Fatalf("P3.3: %s of %v with itself", name, kept)
			}
		}
		if !same(both, kept) {
			t.Fatalf("P3.3: %v was changed", kept)
		}
	}
}
