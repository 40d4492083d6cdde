package fcmp

import (
	"vernier/api"
)

const (
	sign  = uint64(1) << 63
	one   = uint64(0x3ff0000000000000) // 1
	least = uint64(0x0010000000000000) // 2^-1022, the smallest of e 1
	great = uint64(0x7fefffffffffffff) // the greatest finite number
	inf   = uint64(0x7ff0000000000000)
)

// power is 2^k, k from -1074 to 1023.
func power(k int) uint64 {
	if k < -1022 {
		return 1 << (k + 1074)
	}
	return uint64(k+1023) << 52
}

// nans are NaNs of any fraction, both signs.
var nans = []uint64{inf + 1, api.NaN, api.NaN - 1, api.NaN + 1, 1<<63 - 1, 0x7ff4000000000000, sign | inf + 1, sign | api.NaN, 1<<64 - 1}

// edges are numbers at the edges of each kind, both signs.
func edges() []uint64 {
	out := []uint64{
		0, 1, 2, 3, 1 << 51, least - 2, least - 1, least, least + 1, 2*least - 1, 2 * least,
		power(-1000), power(-54), power(-53) - 1, power(-53), power(-53) + 1, power(-52),
		one - 2, one - 1, one, one + 1, one + 2, power(1) - 1, power(1), 0x4008000000000000, power(52), power(53) - 1, power(53), power(53) + 1,
		power(500), power(969), power(970) - 1, power(970), power(970) + 1, power(971), power(1023), great - 1, great, inf,
	}
	for _, a := range out {
		out = append(out, a|sign)
	}
	return append(out, nans...)
}

// source is a rule of numbers that look mixed, the same in every run.
type source uint64

func (s *source) next() uint64 {
	*s += 0x9e3779b97f4a7c15
	z := uint64(*s)
	z = (z ^ z>>30) * 0xbf58476d1ce4e5b9
	z = (z ^ z>>27) * 0x94d049bb133111eb
	return z ^ z>>31
}

// below is a number from 0 to n-1.
func (s *source) below(n int) int { return int(s.next() % uint64(n)) }

// fraction makes 52 bits; few ones, few zeros and edges come up often.
func (s *source) fraction() uint64 {
	f := s.next()
	switch s.below(5) {
	case 0:
		f = 1<<s.below(64) - uint64(s.below(3))
	case 1:
		f <<= s.below(64)
	case 2:
		f |= 1<<s.below(64) - 1
	}
	return f & (1<<52 - 1)
}

// number makes a number of any kind; those about 1, of e 0 and the greatest
// ones come up often.
func (s *source) number() uint64 {
	a := s.next()&sign | s.fraction()
	switch s.below(6) {
	case 0:
		return a | uint64(1023-60+s.below(120))<<52
	case 1:
		return a
	case 2:
		return a | uint64(1+s.below(110))<<52
	case 3:
		return a | uint64(2047-s.below(60))<<52
	}
	return a | uint64(s.below(2048))<<52
}

// near makes a number whose exponent is at most n from that of a.
func (s *source) near(a uint64, n int) uint64 {
	e := int(a>>52&2047) + s.below(2*n+1) - n
	return s.next()&sign | s.fraction() | uint64(min(max(e, 0), 2046))<<52
}

func isNaN(a uint64) bool  { return a&^sign > inf }
func isInf(a uint64) bool  { return a&^sign == inf }
func isZero(a uint64) bool { return a&^sign == 0 }
