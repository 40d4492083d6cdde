package drive_test

import (
	"math/big"
	"slices"

	"vernier/api"
)

// All that is held against bounds is reckoned by math/big, with so many bits that
// nothing is lost.
const bits = 60000

func num() *big.Float { return new(big.Float).SetPrec(bits) }

// exactly is the finite number whose bits these are.
func exactly(a uint64) *big.Float {
	neg, e, frac := a&sign != 0, int(a>>52&0x7ff), a&(1<<52-1)
	if e > 0 {
		frac |= 1 << 52
	} else {
		e = 1
	}
	out := num().SetMantExp(num().SetUint64(frac), e-1075)
	if neg {
		out.Neg(out)
	}
	return out
}

func whole(n int) *big.Float { return num().SetInt64(int64(n)) }
func sum(l ...*big.Float) *big.Float {
	out := num()
	for _, x := range l {
		out.Add(out, x)
	}
	return out
}
func mul(l ...*big.Float) *big.Float {
	out := whole(1)
	for _, x := range l {
		out.Mul(out, x)
	}
	return out
}
func most(l ...*big.Float) *big.Float {
	out := l[0]
	for _, x := range l {
		if x.Cmp(out) > 0 {
			out = x
		}
	}
	return out
}

// pair is a bound, exactly.
type pair struct{ e, g *big.Float }

func unitU() *big.Float { return num().SetMantExp(whole(1), -53) }
func unitH() *big.Float { return num().SetMantExp(whole(1), -1075) }

// further is what stands, n of it, and one more product, as chapter 34 says it of
// dots and of k odd.
func (p pair) further(n int) pair {
	u, h := unitU(), unitH()
	return pair{sum(p.e, u, mul(u, sum(whole(n+1), p.e, u))), sum(p.g, h, mul(u, sum(p.g, h)))}
}

func dotBound(k int) pair {
	p := pair{unitU(), unitH()}
	for j := 2; j <= k; j++ {
		p = p.further(j - 1)
	}
	return p
}

// lot is a sum of blocks, or of products of them, with its number and error.
type lot struct{ n, e, g *big.Float }

func block() lot { return lot{whole(1), num(), num()} }

func (x lot) and(y lot) lot {
	u := unitU()
	return lot{sum(x.n, y.n), sum(x.e, y.e, mul(u, sum(x.n, y.n, x.e, y.e))), sum(x.g, y.g, mul(u, sum(x.g, y.g)))}
}

// productBound is chapter 34's pair of a product in seven parts.
func productBound(m, k, n, c int) pair {
	if m <= c || k <= c || n <= c {
		return dotBound(k)
	}
	half := productBound(m/2, k/2, n/2, c)
	k2 := whole(k / 2)
	times := func(x, y lot) lot {
		e := sum(mul(half.e, sum(x.n, x.e), sum(y.n, y.e)), mul(k2, sum(mul(x.e, sum(y.n, y.e)), mul(x.n, y.e))))
		return lot{mul(k2, x.n, y.n), e, half.g}
	}
	b := block()
	s1, t1 := b.and(b), b.and(b)
	s2, t2 := s1.and(b), b.and(t1)
	s4, t4 := b.and(s2), t2.and(b)
	s3, t3 := b.and(b), b.and(b)
	p1, p2, p3, p4, p5, p6, p7 := times(b, b), times(b, b), times(s4, b), times(b, t4), times(s1, t1), times(s2, t2), times(s3, t3)
	u2 := p1.and(p6)
	u3 := u2.and(p7)
	var out []pair
	for _, x := range []lot{p1.and(p2), u2.and(p5).and(p3), u3.and(p4), u3.and(p5)} {
		p := pair{x.e, x.g}
		if k%2 == 1 {
			p = p.further(k - 1)
		}
		out = append(out, p)
	}
	if m%2 == 1 || n%2 == 1 {
		out = append(out, dotBound(k))
	}
	all := out[0]
	for _, p := range out {
		all = pair{most(all.e, p.e), most(all.g, p.g)}
	}
	return all
}

// behind is the pair where p is taken away from r rows, which are then done to
// last's.
func (p pair) behind(r int, last pair) pair {
	u := unitU()
	return pair{sum(p.e, mul(u, sum(whole(r), last.e)), last.e), sum(p.g, mul(sum(whole(1), u), last.g))}
}

func greatest(l ...pair) pair {
	out := l[0]
	for _, p := range l {
		out = pair{most(out.e, p.e), most(out.g, p.g)}
	}
	return out
}

func triBound(n, m int, upper, unit bool, c int) pair {
	if n == 1 {
		if unit {
			return pair{num(), num()}
		}
		return pair{unitU(), unitH()}
	}
	first, last := n/2, n-n/2
	if upper {
		first, last = last, first
	}
	p := productBound(last, first, m, c)
	return greatest(triBound(first, m, upper, unit, c), p.behind(last, triBound(last, m, upper, unit, c)))
}

func luBound(m, n, c int) pair {
	if n == 1 {
		return pair{unitU(), unitH()}
	}
	n1, n2 := n/2, n-n/2
	p := productBound(m-n1, n1, n2, c)
	return greatest(luBound(m, n1, c), triBound(n1, n2, false, true, c), p.behind(n2, luBound(m-n1, n2, c)))
}

func cholBound(n, c int) pair {
	if n == 1 {
		u := unitU()
		return pair{sum(u, u, mul(u, u)), num()}
	}
	n1, n2 := n/2, n-n/2
	p := productBound(n2, n1, n2, c)
	return greatest(cholBound(n1, c), triBound(n1, n2, false, false, c), p.behind(n2, cholBound(n2, c)))
}

// value is E times x and y, and G; wide: G times 1 and x, 1 and y.
func (p pair) value(x, y *big.Float, wide bool) *big.Float {
	if !wide {
		return sum(mul(p.e, x, y), p.g)
	}
	return sum(mul(p.e, x, y), mul(p.g, sum(whole(1), x), sum(whole(1), y)))
}

// largest is the greatest Abs of a's numbers.
func largest(a api.Mat) *big.Float {
	out := num()
	for _, word := range a.Data {
		out = most(out, exactly(word&^sign))
	}
	return out
}

// off is the greatest Abs of the numbers of c less a times b, exactly.
func off(a, b, c api.Mat) *big.Float {
	out := num()
	for i := range a.Rows {
		for j := range b.Cols {
			word := exactly(c.Data[i*c.Cols+j])
			for k := range a.Cols {
				word.Sub(word, mul(exactly(a.Data[i*a.Cols+k]), exactly(b.Data[k*b.Cols+j])))
			}
			out = most(out, word.Abs(word))
		}
	}
	return out
}

// float is x, exactly.
func float(x api.Dyadic) *big.Float {
	out := num()
	for _, limb := range slices.Backward(x.Abs) {
		out.SetMantExp(out, 64)
		out.Add(out, num().SetUint64(limb))
	}
	out.SetMantExp(out, x.Exp)
	if x.Neg {
		out.Neg(out)
	}
	return out
}

// dyadicOf is x, as dyadic numbers are told.
func dyadicOf(x *big.Float) api.Dyadic {
	if x.Sign() == 0 {
		return api.Dyadic{}
	}
	mant := num()
	exp := x.MantExp(mant)
	n, _ := mant.SetMantExp(mant, bits).Int(nil)
	neg := n.Sign() < 0
	n.Abs(n)
	zeros := n.TrailingZeroBits()
	n.Rsh(n, zeros)
	out := api.Dyadic{Neg: neg, Exp: exp - bits + int(zeros)}
	mask := new(big.Int).SetUint64(1<<64 - 1)
	for n.Sign() != 0 {
		out.Abs = append(out.Abs, new(big.Int).And(n, mask).Uint64())
		n.Rsh(n, 64)
	}
	return out
}

// told is x, rounded up to 128 bits, as dyadic numbers are told.
func told(x *big.Float) api.Dyadic {
	return dyadicOf(new(big.Float).SetPrec(128).SetMode(big.ToPositiveInf).Set(x))
}

func same(x, y api.Dyadic) bool {
	return x.Neg == y.Neg && x.Exp == y.Exp && slices.Equal(x.Abs, y.Abs)
}

// reckoned is the pair that is told, and then its value.
func (p pair) reckoned(x, y *big.Float, wide bool) *big.Float {
	return pair{float(told(p.e)), float(told(p.g))}.value(x, y, wide)
}
