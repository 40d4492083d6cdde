package fconv

import (
	"math"
	"math/big"

	"vernier/api"
)

const (
	sign  = uint64(1) << 63
	one   = uint64(0x3ff0000000000000) // 1
	least = uint64(0x0010000000000000) // 2^-1022, the smallest of e 1
	great = uint64(0x7fefffffffffffff) // the greatest finite number
	inf   = uint64(0x7ff0000000000000)

	lost = api.Inexact
	tiny = api.Inexact | api.Underflow
	over = api.Inexact | api.Overflow
)

// signs are both.
var signs = []bool{false, true}

// modes are the directions, and others, which count as 0.
var modes = []int{0, 1, 2, 3, 4, -1, 5, -4, 256, 1 << 32, math.MinInt, math.MaxInt}

// direction is mode as the chapters count it.
func direction(mode int) int {
	if mode < 0 || mode > 4 {
		return 0
	}
	return mode
}

// mirrored is the direction that does to a number what mode does to its
// opposite.
func mirrored(mode int) int {
	switch mode {
	case 3:
		return 4
	case 4:
		return 3
	}
	return mode
}

// signed is a number above 0 with a sign.
func signed(neg bool, a uint64) uint64 {
	if neg {
		return a | sign
	}
	return a
}

// power is 2^k, k from -1074 to 1023.
func power(k int) uint64 {
	if k < -1022 {
		return 1 << (k + 1074)
	}
	return uint64(k+1023) << 52
}

// all is the same five times.
func all[T any](a T) [5]T { return [5]T{a, a, a, a, a} }

// nans are NaNs of any fraction, both signs.
var nans = []uint64{inf + 1, api.NaN, api.NaN - 1, api.NaN + 1, 1<<63 - 1, 0x7ff4000000000000, sign | inf + 1, sign | api.NaN, 1<<64 - 1}

// edges are numbers at the edges of each kind, both signs.
func edges() []uint64 {
	out := []uint64{
		0, 1, 2, 3, 1 << 51, least - 2, least - 1, least, least + 1, 2*least - 1, 2 * least,
		power(-1000), power(-54), power(-53) - 1, power(-53), power(-53) + 1, power(-52),
		one - 2, one - 1, one, one + 1, one + 2, power(1) - 1, power(1), 0x4008000000000000, power(52), power(53) - 1, power(53), power(53) + 1,
		power(500), power(969), power(970) - 1, power(970), power(970) + 1, power(971), power(1023), great - 1, great, inf,
	}
	for _, a := range out {
		out = append(out, a|sign)
	}
	return append(out, nans...)
}

// source is a rule of numbers that look mixed, the same in every run.
type source uint64

func (s *source) next() uint64 {
	*s += 0x9e3779b97f4a7c15
	z := uint64(*s)
	z = (z ^ z>>30) * 0xbf58476d1ce4e5b9
	z = (z ^ z>>27) * 0x94d049bb133111eb
	return z ^ z>>31
}

// below is a number from 0 to n-1.
func (s *source) below(n int) int { return int(s.next() % uint64(n)) }

// fraction makes 52 bits; few ones, few zeros and edges come up often.
func (s *source) fraction() uint64 {
	f := s.next()
	switch s.below(5) {
	case 0:
		f = 1<<s.below(64) - uint64(s.below(3))
	case 1:
		f <<= s.below(64)
	case 2:
		f |= 1<<s.below(64) - 1
	}
	return f & (1<<52 - 1)
}

// number makes a number of any kind; those about 1, of e 0 and the greatest
// ones come up often.
func (s *source) number() uint64 {
	a := s.next()&sign | s.fraction()
	switch s.below(6) {
	case 0:
		return a | uint64(1023-60+s.below(120))<<52
	case 1:
		return a
	case 2:
		return a | uint64(1+s.below(110))<<52
	case 3:
		return a | uint64(2047-s.below(60))<<52
	}
	return a | uint64(s.below(2048))<<52
}

func isNaN(a uint64) bool  { return a&^sign > inf }
func isInf(a uint64) bool  { return a&^sign == inf }
func isZero(a uint64) bool { return a&^sign == 0 }

// units is how many times 2^-1074 a finite number is.
func units(a uint64) *big.Int {
	m, e := a&(1<<52-1), uint(a>>52&2047)
	if e > 0 {
		m |= 1 << 52
		e--
	}
	v := new(big.Int).Lsh(new(big.Int).SetUint64(m), e)
	if a&sign != 0 {
		v.Neg(v)
	}
	return v
}

// rounded is v times 2^exp, v above 0, rounded word by word as chapter 6 says
// it, by another program's whole numbers and the machine's own scaling.
func rounded(neg bool, v *big.Int, exp int, mode int) (uint64, int) {
	highest := v.BitLen() - 1 + exp
	x := max(highest-52, -1074)
	num, den := new(big.Int).Set(v), big.NewInt(1)
	if exp >= x {
		num.Lsh(num, uint(exp-x))
	} else {
		den.Lsh(den, uint(x-exp))
	}
	m, rest := new(big.Int).QuoRem(num, den, new(big.Int))
	flags := 0
	if rest.Sign() != 0 {
		flags = lost
		if highest < -1022 {
			flags = tiny
		}
		half := rest.Lsh(rest, 1).Cmp(den)
		farther := half > 0 || half == 0 && m.Bit(0) == 1
		switch direction(mode) {
		case 1:
			farther = half >= 0
		case 2:
			farther = false
		case 3:
			farther = !neg
		case 4:
			farther = neg
		}
		if farther {
			m.Add(m, big.NewInt(1))
		}
	}
	if m.BitLen()+x > 1024 {
		if []bool{false, false, true, neg, !neg}[direction(mode)] {
			return signed(neg, great), over
		}
		return signed(neg, inf), over
	}
	return signed(neg, math.Float64bits(math.Ldexp(float64(m.Uint64()), x))), flags
}
