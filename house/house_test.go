package house_test

import (
	"slices"
	"testing"

	"vernier/api"
	"vernier/house"
)

func holdMake(t *testing.T, x, v []uint64, tau, beta uint64, wantErr api.Errno) {
	t.Helper()
	gotV, gotTau, gotBeta, err := house.Make(x)
	if !slices.Equal(gotV, v) || gotTau != tau || gotBeta != beta || err != wantErr {
		t.Errorf("P25.1: Make(%#x) = %#x, %#x, %#x, error %d; want %#x, %#x, %#x, error %d", x, gotV, gotTau, gotBeta, err, v, tau, beta, wantErr)
	}
}

func holdApply(t *testing.T, v []uint64, tau uint64, x, want []uint64, wantErr api.Errno) {
	t.Helper()
	if got, err := house.Apply(v, tau, x); !slices.Equal(got, want) || err != wantErr {
		t.Errorf("P25.1: Apply(%#x, %#x, %#x) = %#x, error %d; want %#x, error %d", v, tau, x, got, err, want, wantErr)
	}
}

func TestMake(t *testing.T) {
	holdMake(t, list(of(3), of(4)), list(one, of(0.5)), of(1.6), of(-5), api.OK) // the chapter's example
	holdMake(t, list(of(-3), of(4)), list(one, of(-0.5)), of(1.6), of(5), api.OK)
	holdMake(t, list(of(3), of(-4)), list(one, of(-0.5)), of(1.6), of(-5), api.OK)
	holdMake(t, list(of(-3), of(-4)), list(one, of(0.5)), of(1.6), of(5), api.OK)
	holdMake(t, list(of(2), of(3), of(6)), list(one, of(1.0/3), of(2.0/3)), of(9.0/7), of(-7), api.OK)
	holdMake(t, list(of(4), 0, of(3)), list(one, 0, of(1.0/3)), of(1.8), of(-5), api.OK)
	holdMake(t, list(of(4), sign, of(3)), list(one, sign, of(1.0/3)), of(1.8), of(-5), api.OK)
	holdMake(t, list(of(-4), 0, of(3)), list(one, sign, of(-1.0/3)), of(1.8), of(5), api.OK)
	// The first one is 0, of either sign.
	holdMake(t, list(0, of(3), of(4)), list(one, of(0.6), of(0.8)), one, of(-5), api.OK)
	holdMake(t, list(sign, of(3), of(4)), list(one, of(-0.6), of(-0.8)), one, of(5), api.OK)
	holdMake(t, list(0, one), list(one, one), one, sign|one, api.OK)
	holdMake(t, list(sign, one), list(one, sign|one), one, one, api.OK)
	holdMake(t, list(0, sign|one), list(one, sign|one), one, sign|one, api.OK)
	s := source(1)
	for i := range 4000 {
		n := 2 + s.below(63)
		if i%3 == 0 {
			n = 2 + s.below(4)
		}
		x := s.row(n)
		if !slices.ContainsFunc(x[1:], func(a uint64) bool { return a&^sign != 0 }) {
			continue
		}
		if i%5 == 0 {
			x[0] = power(30) + s.next()&(sign|1<<52-1)
		}
		v, tau, beta := made(x)
		holdMake(t, x, v, tau, beta, api.OK)
	}
	for _, n := range []int{2, 3, 63, 64} {
		x := append(repeat(0, n-1), sign|two)
		v, tau, beta := made(x)
		holdMake(t, x, v, tau, beta, api.OK)
		x = repeat(one, n)
		v, tau, beta = made(x)
		holdMake(t, x, v, tau, beta, api.OK)
	}
}

// P25.1: all behind the first is zero, of either sign: beta is the first itself.
func TestMakeZeros(t *testing.T) {
	for _, first := range []uint64{0, sign, 1, sign | 1, one, sign | one, great, sign | great, power(-700), power(700)} {
		for _, n := range []int{1, 2, 3, 63, 64} {
			for _, zero := range []uint64{0, sign} {
				x := append(list(first), repeat(zero, n-1)...)
				v := append(list(one), repeat(0, n-1)...)
				holdMake(t, x, v, 0, first, api.OK)
				if n > 2 {
					x[n-1] ^= sign
					holdMake(t, x, v, 0, first, api.OK)
				}
			}
		}
	}
}

// P25.1: the order of adding, seen in the last bit, and each product rounded.
func TestMakeOrder(t *testing.T) {
	q := power(-27) // its square is a quarter of 1's last bit
	for _, x := range [][]uint64{{one, q, q, q}, {q, q, q, one}, {sign | one, q, q, q, q, q, q, q}, {q, q, q, q, q, q, q, one}, {one + 1, power(-60)}, {of(1<<27 - 1), power(-60)}} {
		v, tau, beta := made(x)
		holdMake(t, x, v, tau, beta, api.OK)
	}
	holdMake(t, list(one, q, q, q), append(list(one), repeat(power(-28), 3)...), two, sign|one, api.OK)
	// Halves go to the even one.
	holdMake(t, list(one, 1, 3, sign|5), list(one, 0, 2, sign|2), two, sign|one, api.OK)
	// Six quarters of 1's last bit and 1 are 1 and two of that bit, whose root is
	// 1 and that bit; from 1 on it stays 1.
	sixth := append(repeat(q, 6), one)
	v, tau, beta := made(sixth)
	if beta != sign|(one+1) {
		t.Fatalf("the root is %#x", beta)
	}
	holdMake(t, sixth, v, tau, beta, api.OK)
	slices.Reverse(sixth)
	holdMake(t, sixth, append(list(one), repeat(power(-28), 6)...), two, sign|one, api.OK)
}

// P25.1: so small that the root is zero; so great that the dot is not finite.
func TestMakeEnds(t *testing.T) {
	for _, x := range [][]uint64{{1, 1}, {0, 1}, {sign, sign | 1}, {least, least}, {sign | least, 0, 1}, {power(-538), power(-538)}, {power(-600), power(-540), 0}, repeat(power(-538), 64), {0, power(-538)}} {
		holdMake(t, x, nil, 0, 0, api.ErrZero)
	}
	for _, x := range [][]uint64{{power(-537), power(-537)}, {0, power(-537)}, {power(-538), power(-537)}, {sign | 1, power(-537) + 1}, {power(-520), 1}, {1, power(-520)}, {power(-537), least, 0}, {power(-537), 1}, {sign | 1, sign | power(-537)}} {
		v, tau, beta := made(x)
		holdMake(t, x, v, tau, beta, api.OK)
	}
	for _, x := range [][]uint64{{one, power(512)}, {power(512), one}, {0, great}, {great, 1}, {sign | great, sign | great}, {power(511), power(511), power(511), power(511)}, repeat(power(510), 64), {power(512), 1}, append(repeat(one, 63), power(512))} {
		holdMake(t, x, nil, 0, 0, api.ErrOverflow)
	}
	for _, x := range [][]uint64{{power(511), power(511)}, {sign | power(511), power(511), power(511)}, {0, power(512) - 1}, {power(512) - 1, power(400)}, {one, power(511)}, {power(511), 1}, {1, sign | power(511)}} {
		v, tau, beta := made(x)
		holdMake(t, x, v, tau, beta, api.OK)
	}
}

// P25.1: vec.Check's error; then that there are no numbers.
func TestMakeErrors(t *testing.T) {
	holdMake(t, nil, nil, 0, 0, api.ErrShape)
	holdMake(t, list(), nil, 0, 0, api.ErrShape)
	for _, f := range faults() {
		holdMake(t, f.row, nil, 0, 0, f.err)
	}
}

func TestApply(t *testing.T) {
	// The mirror of 3 4 takes it to -5 0.
	holdApply(t, list(one, of(0.5)), of(1.6), list(of(3), of(4)), list(of(-5), 0), api.OK)
	holdApply(t, list(one, of(0.5)), of(1.5), list(of(2), of(4)), list(of(-4), of(1)), api.OK)
	holdApply(t, list(of(2), of(-1)), of(3), list(of(1), of(5)), list(of(19), of(-4)), api.OK)
	holdApply(t, nil, one, nil, nil, api.OK)
	holdApply(t, list(), 0, nil, nil, api.OK)
	s := source(2)
	for range 3000 {
		n := s.below(65)
		v, tau, x := s.row(n), s.near(3), s.row(n)
		holdApply(t, v, tau, x, mirrored(v, tau, x), api.OK)
	}
}

// P25.1: what Make tells takes x to beta, but for the last bits.
func TestApplyMade(t *testing.T) {
	s := source(3)
	for range 500 {
		x := append(s.row(1+s.below(60)), one)
		v, tau, beta, err := house.Make(x)
		got, applyErr := house.Apply(v, tau, x)
		if err != api.OK || applyErr != api.OK {
			t.Fatalf("P25.1: Make, Apply of %#x: errors %d, %d", x, err, applyErr)
		}
		size := beta &^ sign
		for i, word := range got {
			if i == 0 {
				word = less(word, beta)
			}
			if word&^sign > times(size, power(-44)) {
				t.Errorf("P25.1: %#x is taken to %#x, beta %#x", x, got, beta)
			}
		}
	}
}

// P25.1: zeros of both signs, and tau 0.
func TestApplyZeros(t *testing.T) {
	words := list(0, sign, one, sign|one)
	for _, tau := range append(words, two) {
		for _, a := range words {
			for _, b := range words {
				for _, x := range words {
					v := list(a, b)
					row := list(x, b)
					holdApply(t, v, tau, row, mirrored(v, tau, row), api.OK)
				}
			}
		}
	}
	holdApply(t, list(one), 0, list(sign), list(sign), api.OK)
	holdApply(t, list(one), sign, list(sign), list(0), api.OK) // w is -0
	holdApply(t, list(one), 0, list(great), list(great), api.OK)
	holdApply(t, list(one, one), 0, list(sign, one), list(sign, one), api.OK)
}

// P25.1: the order of adding, and what is rounded ahead.
func TestApplyOrder(t *testing.T) {
	h := power(-53)
	v := list(one, one, one)
	holdApply(t, v, one, list(one, h, h), mirrored(v, one, list(one, h, h)), api.OK)
	holdApply(t, v, one, list(one, h, h), list(0, less(h, one), less(h, one)), api.OK)
	holdApply(t, v, one, list(h, h, one), list(less(h, one+1), less(h, one+1), sign|power(-52)), api.OK)
	// Tau times the dot first, and that times v.
	holdApply(t, list(of(3)), one+1, list(one), mirrored(list(of(3)), one+1, list(one)), api.OK)
	holdApply(t, list(one+1), one, list(one+2), list(less(one+2, times(times(one+1, one+2), one+1))), api.OK)
	for _, tau := range list(of(0.1), of(1.1), of(1.9)) {
		for _, word := range list(of(0.3), of(0.7), of(1.3), of(3.3)) {
			x := list(word, of(0.1), word)
			holdApply(t, x, tau, v, mirrored(x, tau, v), api.OK)
		}
	}
	// Halves go to the even one.
	holdApply(t, list(power(-1), one), one, list(0, 1), list(0, 0), api.OK)
	holdApply(t, list(power(-1), one), one, list(0, 3), list(sign|2, 0), api.OK)
}

// P25.1: vec.Dot's errors but overflow; tau; then overflow.
func TestApplyErrors(t *testing.T) {
	taus := append(list(0, one, great), lost...)
	for _, tau := range taus {
		for _, f := range faults() {
			for _, good := range [][]uint64{nil, list(one), repeat(great, 64), repeat(one, min(len(f.row), 64))} {
				holdApply(t, f.row, tau, good, nil, f.err)
				holdApply(t, good, tau, f.row, nil, f.err)
			}
			for _, g := range faults() {
				holdApply(t, f.row, tau, g.row, nil, f.err)
			}
		}
		for _, n := range [][2]int{{0, 1}, {1, 0}, {1, 2}, {2, 1}, {63, 64}, {64, 63}} {
			holdApply(t, repeat(great, n[0]), tau, repeat(great, n[1]), nil, api.ErrShape)
		}
	}
	for _, tau := range lost {
		for _, n := range []int{0, 1, 2, 64} {
			holdApply(t, repeat(one, n), tau, repeat(one, n), nil, api.ErrInput)
			holdApply(t, repeat(0, n), tau, repeat(0, n), nil, api.ErrInput)
			holdApply(t, repeat(great, n), tau, repeat(great, n), nil, api.ErrInput) // the dot is not finite
		}
	}
}

// P25.1: the dot, a product, a difference that is not finite.
func TestApplyOverflow(t *testing.T) {
	g := great
	// The dot, whatever tau is.
	for _, tau := range list(0, sign, one, power(-1074)) {
		holdApply(t, list(g), tau, list(g), nil, api.ErrOverflow)
		holdApply(t, list(one, two, one), tau, list(one, g, one), nil, api.ErrOverflow)
		holdApply(t, list(one, one, one), tau, list(g, g, sign|g), nil, api.ErrOverflow)
	}
	holdApply(t, list(one, one, one), 0, list(g, sign|g, g), list(g, sign|g, g), api.OK)
	// Tau times it.
	holdApply(t, list(one), two, list(g), nil, api.ErrOverflow)
	holdApply(t, list(one, 0), two, list(g, one), nil, api.ErrOverflow)
	// That times a v, at any place.
	for place := range 3 {
		v, x := list(one, one, one), list(0, 0, 0)
		v[place] = power(600)
		x[(place+1)%3] = power(600)
		holdApply(t, v, one, x, nil, api.ErrOverflow)
		holdApply(t, v, power(-600), x, mirrored(v, power(-600), x), api.OK)
	}
	// The difference.
	holdApply(t, list(one), sign|one, list(g), nil, api.ErrOverflow)
	holdApply(t, list(one), one, list(g), list(0), api.OK)
	holdApply(t, list(one, one), one, list(g, sign|power(971)), list(power(971), sign|g), api.OK)
	holdApply(t, list(0, one), sign|one, list(one, g), nil, api.ErrOverflow)
	holdApply(t, list(one, 0), sign|one, list(g, one), nil, api.ErrOverflow)
}

// P25.2: what is handed in isn't changed, and shares nothing with what is told.
func TestMemory(t *testing.T) {
	s := source(4)
	for _, n := range []int{1, 2, 3, 64} {
		for _, x := range [][]uint64{append(s.row(n)[1:], one), append(list(two), repeat(0, n-1)...)} {
			holdMemory(t, "Make", func(in [][]uint64) []uint64 {
				v, _, _, _ := house.Make(in[0])
				return v
			}, x)
			for _, tau := range list(0, one, two) {
				for _, v := range [][]uint64{s.row(n), repeat(0, n)} {
					holdMemory(t, "Apply", func(in [][]uint64) []uint64 {
						out, _ := house.Apply(in[0], tau, in[1])
						return out
					}, v, x)
				}
			}
		}
	}
}
