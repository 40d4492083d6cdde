package resid_test

import (
	"math/big"
	"slices"
	"testing"

	"vernier/api"
)

// What is held exactly is reckoned by math/big, with so many bits that nothing is
// lost.
const bits = 60000

func num() *big.Float { return new(big.Float).SetPrec(bits) }

// exactly is the finite number whose bits these are.
func exactly(a uint64) *big.Float {
	neg, e, frac := a&sign != 0, int(a>>52&0x7ff), a&(1<<52-1)
	if e > 0 {
		frac |= 1 << 52
	} else {
		e = 1
	}
	out := num().SetMantExp(num().SetUint64(frac), e-1075)
	if neg {
		out.Neg(out)
	}
	return out
}

func whole(n int) *big.Float { return num().SetInt64(int64(n)) }
func sum(l ...*big.Float) *big.Float {
	out := num()
	for _, x := range l {
		out.Add(out, x)
	}
	return out
}
func mul(l ...*big.Float) *big.Float {
	out := whole(1)
	for _, x := range l {
		out.Mul(out, x)
	}
	return out
}
func most(l ...*big.Float) *big.Float {
	out := l[0]
	for _, x := range l {
		if x.Cmp(out) > 0 {
			out = x
		}
	}
	return out
}

// largest is the greatest Abs of a's numbers.
func largest(a api.Mat) *big.Float {
	out := num()
	for _, word := range a.Data {
		out = most(out, exactly(word&^sign))
	}
	return out
}

// off is the greatest Abs of the numbers of c less a times b, exactly.
func off(a, b, c api.Mat) *big.Float {
	out := num()
	for i := range a.Rows {
		for j := range b.Cols {
			word := exactly(c.Data[i*c.Cols+j])
			for k := range a.Cols {
				word.Sub(word, mul(exactly(a.Data[i*a.Cols+k]), exactly(b.Data[k*b.Cols+j])))
			}
			out = most(out, word.Abs(word))
		}
	}
	return out
}

// dyadicOf is x, as dyadic numbers are told.
func dyadicOf(x *big.Float) api.Dyadic {
	if x.Sign() == 0 {
		return api.Dyadic{}
	}
	mant := num()
	exp := x.MantExp(mant)
	n, _ := mant.SetMantExp(mant, bits).Int(nil)
	neg := n.Sign() < 0
	n.Abs(n)
	zeros := n.TrailingZeroBits()
	n.Rsh(n, zeros)
	out := api.Dyadic{Neg: neg, Exp: exp - bits + int(zeros)}
	mask := new(big.Int).SetUint64(1<<64 - 1)
	for n.Sign() != 0 {
		out.Abs = append(out.Abs, new(big.Int).And(n, mask).Uint64())
		n.Rsh(n, 64)
	}
	return out
}

func same(x, y api.Dyadic) bool {
	return x.Neg == y.Neg && x.Exp == y.Exp && slices.Equal(x.Abs, y.Abs)
}

// holdDyadic holds a number and its error against those wanted.
func holdDyadic(t *testing.T, what string, got api.Dyadic, err api.Errno, want api.Dyadic, wantErr api.Errno) {
	t.Helper()
	if !same(got, want) || err != wantErr {
		t.Errorf("%s = %v, error %d; want %v, error %d", what, got, err, want, wantErr)
	}
}

// table is a matrix of numbers that are never rounded.
type table struct {
	rows, cols int
	data       []*big.Float
}

func exact(a api.Mat) table {
	out := table{a.Rows, a.Cols, nil}
	for _, word := range a.Data {
		out.data = append(out.data, exactly(word))
	}
	return out
}

func (a table) times(b table) table {
	out := table{a.rows, b.cols, nil}
	for i := range a.rows {
		for j := range b.cols {
			x := num()
			for k := range a.cols {
				x.Add(x, mul(a.data[i*a.cols+k], b.data[k*b.cols+j]))
			}
			out.data = append(out.data, x)
		}
	}
	return out
}

func (a table) less(b table) table {
	out := table{a.rows, a.cols, nil}
	for k, x := range a.data {
		out.data = append(out.data, num().Sub(x, b.data[k]))
	}
	return out
}

func (a table) turned() table {
	out := table{a.cols, a.rows, nil}
	for j := range a.cols {
		for i := range a.rows {
			out.data = append(out.data, a.data[i*a.cols+j])
		}
	}
	return out
}

func (a table) most() api.Dyadic {
	out := num()
	for _, x := range a.data {
		out = most(out, num().Abs(x))
	}
	return dyadicOf(out)
}
