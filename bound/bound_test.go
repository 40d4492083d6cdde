package bound_test

import (
	"fmt"
	"math"
	"slices"
	"testing"

	"vernier/api"
	"vernier/bound"
)

// bad are ints that are no side of any matrix.
var bad = []int{0, -1, -2, -64, 65, 66, 128, math.MinInt, math.MinInt + 1, math.MaxInt, math.MaxInt - 1, 1 << 32, 1<<32 + 1, -1 << 32, 1 << 62}

var none = api.Bound{}

// cutoffs are 1, each side, and those beside them.
func cutoffs(sides ...int) []int {
	out := []int{1, 2, 64, math.MaxInt}
	for _, n := range sides {
		out = append(out, max(n-1, 1), max(n, 1), n+1)
	}
	slices.Sort(out)
	return slices.Compact(out)
}

// P34.1: pairs that are reckoned by hand; 3 is the chapter's example's.
func TestByHand(t *testing.T) {
	pairOf := func(e, g api.Dyadic) api.Bound { return api.Bound{E: e, G: g} }
	got, err := bound.Dot(1)
	hold(t, "Dot of 1", got, err, pairOf(dyad(-53, 1), dyad(-1075, 1)), api.OK)
	got, err = bound.Dot(2) // 4 u and 2 u u; 2 h and 2 u h
	hold(t, "Dot of 2", got, err, pairOf(dyad(-105, 1<<54+1), dyad(-1127, 1<<53+1)), api.OK)
	got, err = bound.Dot(3) // 8 u, 7 u u, 2 u u u; 3 h, 5 u h, 2 u u h
	hold(t, "Dot of 3", got, err, pairOf(dyad(-158, 0x70000000000001, 0x100000000000), dyad(-1180, 0x50000000000001, 0x60000000000)), api.OK)
	got, err = bound.Dot(64)
	hold(t, "Dot of 64", got, err, pairOf(dyad(-169, 0x2bddc001, 0x85f0000000005940), dyad(-1196, 0x55308001, 0x80000000000081f0)), api.OK)
	for _, x := range []struct {
		m, k, n, c int
		want       api.Bound
	}{
		{2, 2, 2, 1, pairOf(dyad(-174, 0xe28001, 0xd6000000000011e0), dyad(-1200, 0x380001, 0x8000000000000900))},
		{2, 2, 2, 2, pairOf(dyad(-105, 1<<54+1), dyad(-1127, 1<<53+1))},
		{3, 3, 3, 1, pairOf(dyad(-174, 0x1718001, 0xde000000000018a0), dyad(-1200, 0x800001, 0xa000000000000e00))},
		{3, 3, 3, 3, pairOf(dyad(-158, 0x70000000000001, 0x100000000000), dyad(-1180, 0x50000000000001, 0x60000000000))},
		{2, 3, 2, 1, pairOf(dyad(-174, 0x1718001, 0xde000000000018a0), dyad(-1200, 0x800001, 0xa000000000000e00))},
		{3, 2, 2, 1, pairOf(dyad(-174, 0xe28001, 0xd6000000000011e0), dyad(-1200, 0x380001, 0x8000000000000900))},
		{4, 4, 4, 1, pairOf(dyad(-169, 0x80000000035e7c01, 0x8380000000001d6c), dyad(-1198, 0x1120001, 0x8000000000001200))},
		{5, 7, 6, 2, pairOf(dyad(-172, 0x22a0001, 0xd180000000001cc4), dyad(-1199, 0x1e40001, 0xd000000000001e00))},
		{64, 64, 64, 1, pairOf(dyad(-151, 0x7b2e0000127fad87, 0x3537580000002c9d), dyad(-1190, 0xace0001, 0x8000000000003600))},
	} {
		got, err := bound.Product(x.m, x.k, x.n, x.c)
		hold(t, fmt.Sprintf("Product of %d, %d, %d, %d", x.m, x.k, x.n, x.c), got, err, x.want, api.OK)
	}
	for _, x := range []struct {
		n           int
		upper, unit bool
		want        api.Bound
	}{
		{1, false, false, pairOf(dyad(-53, 1), dyad(-1075, 1))},
		{1, true, false, pairOf(dyad(-53, 1), dyad(-1075, 1))},
		{1, false, true, none},
		{1, true, true, none},
		{2, false, false, pairOf(dyad(-106, 0x60000000000001), dyad(-1128, 0x40000000000001))},
		{2, true, false, pairOf(dyad(-106, 0x60000000000001), dyad(-1128, 0x40000000000001))},
		{2, false, true, pairOf(dyad(-52, 1), dyad(-1075, 1))},
		{3, false, false, pairOf(dyad(-159, 0x80000000000001, 0x180000000000), dyad(-1181, 0x60000000000001, 0xc0000000000))},
		{3, true, false, pairOf(dyad(-106, 0xc0000000000003), dyad(-1128, 0x60000000000003))},
		{3, true, true, pairOf(dyad(-105, 0x50000000000001), dyad(-1127, 0x20000000000001))},
	} {
		got, err := bound.Tri(x.n, 1, x.upper, x.unit, 1)
		hold(t, fmt.Sprintf("Tri of %d, upper %v, unit %v", x.n, x.upper, x.unit), got, err, x.want, api.OK)
	}
	for _, x := range []struct {
		m, n int
		want api.Bound
	}{
		{1, 1, pairOf(dyad(-53, 1), dyad(-1075, 1))},
		{2, 1, pairOf(dyad(-53, 1), dyad(-1075, 1))},
		{3, 2, pairOf(dyad(-106, 0x60000000000001), dyad(-1128, 0x40000000000001))},
		{5, 4, pairOf(dyad(-174, 0xe30001, 0xe000000000001220), dyad(-1200, 0x400001, 0xc000000000000c00))},
	} {
		got, err := bound.Lu(x.m, x.n, 1)
		hold(t, fmt.Sprintf("Lu of %d, %d", x.m, x.n), got, err, x.want, api.OK)
	}
	for n, want := range []api.Bound{
		1: pairOf(dyad(-106, 0x40000000000001), dyad(0)),
		2: pairOf(dyad(-159, 0x60000000000001, 0x100000000000), dyad(-1075, 1)),
		3: pairOf(dyad(-178, 0x200001, 0xe000000000000700), dyad(-1128, 0x40000000000001)),
	} {
		if n > 0 {
			got, err := bound.Chol(n, 1)
			hold(t, fmt.Sprintf("Chol of %d", n), got, err, want, api.OK)
		}
	}
}

// P34.1: all calls against the chapter's words.
func TestPairs(t *testing.T) {
	for k := range 64 {
		got, err := bound.Dot(k + 1)
		holdPair(t, fmt.Sprintf("Dot of %d", k+1), got, err, dotBound(k+1))
	}
	sides := []int{1, 2, 3, 4, 5, 8}
	for _, m := range sides {
		for _, k := range sides {
			for _, n := range sides {
				for _, c := range cutoffs(m, k, n) {
					got, err := bound.Product(m, k, n, c)
					holdPair(t, fmt.Sprintf("Product of %d, %d, %d, %d", m, k, n, c), got, err, productBound(m, k, n, c))
				}
			}
		}
	}
	for _, x := range [][4]int{{64, 64, 64, 1}, {63, 63, 63, 1}, {64, 64, 64, 16}, {63, 64, 64, 7}, {64, 63, 64, 31}, {64, 64, 63, 32}, {64, 64, 64, 64}, {1, 64, 1, 1}, {17, 33, 9, 2}} {
		got, err := bound.Product(x[0], x[1], x[2], x[3])
		holdPair(t, fmt.Sprintf("Product of %v", x), got, err, productBound(x[0], x[1], x[2], x[3]))
	}
	for _, n := range []int{1, 2, 3, 4, 5, 8, 13} {
		for _, m := range []int{1, 2, 3, 5, 64} {
			for _, c := range cutoffs(n/2, m) {
				for _, upper := range []bool{false, true} {
					for _, unit := range []bool{false, true} {
						got, err := bound.Tri(n, m, upper, unit, c)
						holdPair(t, fmt.Sprintf("Tri of %d, %d, upper %v, unit %v, %d", n, m, upper, unit, c), got, err, triBound(n, m, upper, unit, c))
					}
				}
			}
		}
		for _, m := range []int{n, n + 1, 2 * n, 64} {
			for _, c := range cutoffs(n / 2) {
				got, err := bound.Lu(m, n, c)
				holdPair(t, fmt.Sprintf("Lu of %d, %d, %d", m, n, c), got, err, luBound(m, n, c))
			}
		}
		for _, c := range cutoffs(n / 2) {
			got, err := bound.Chol(n, c)
			holdPair(t, fmt.Sprintf("Chol of %d, %d", n, c), got, err, cholBound(n, c))
		}
	}
	for _, c := range []int{4, 64} {
		got, err := bound.Tri(64, 64, true, false, c)
		holdPair(t, "Tri of 64", got, err, triBound(64, 64, true, false, c))
		got, err = bound.Lu(64, 64, c)
		holdPair(t, "Lu of 64", got, err, luBound(64, 64, c))
		got, err = bound.Chol(63, c)
		holdPair(t, "Chol of 63", got, err, cholBound(63, c))
	}
}

// P34.1: sides that are none, one by one, and cutoffs.
func TestErrors(t *testing.T) {
	expect := func(what string, got api.Bound, err api.Errno) {
		t.Helper()
		hold(t, what, got, err, none, api.ErrRange)
	}
	for _, x := range bad {
		got, err := bound.Dot(x)
		expect(fmt.Sprintf("Dot of %d", x), got, err)
		for _, at := range [][4]int{{x, 2, 2, 1}, {2, x, 2, 1}, {2, 2, x, 1}, {x, x, x, x}} {
			got, err = bound.Product(at[0], at[1], at[2], at[3])
			expect(fmt.Sprintf("Product of %v", at), got, err)
		}
		for _, upper := range []bool{false, true} {
			for _, at := range [][3]int{{x, 2, 1}, {2, x, 1}, {x, x, x}, {x, 64, math.MaxInt}} {
				got, err = bound.Tri(at[0], at[1], upper, !upper, at[2])
				expect(fmt.Sprintf("Tri of %v", at), got, err)
			}
		}
		for _, at := range [][3]int{{x, 2, 1}, {2, x, 1}, {x, x, x}, {x, 1, math.MaxInt}} {
			got, err = bound.Lu(at[0], at[1], at[2])
			expect(fmt.Sprintf("Lu of %v", at), got, err)
		}
		for _, at := range [][2]int{{x, 1}, {x, x}} {
			got, err = bound.Chol(at[0], at[1])
			expect(fmt.Sprintf("Chol of %v", at), got, err)
		}
		if x > 0 {
			continue
		}
		for _, n := range []int{1, 2, 64} {
			got, err = bound.Product(n, n, n, x)
			expect(fmt.Sprintf("Product with cutoff %d", x), got, err)
			got, err = bound.Tri(n, n, false, true, x)
			expect(fmt.Sprintf("Tri with cutoff %d", x), got, err)
			got, err = bound.Lu(n, n, x)
			expect(fmt.Sprintf("Lu with cutoff %d", x), got, err)
			got, err = bound.Chol(n, x)
			expect(fmt.Sprintf("Chol with cutoff %d", x), got, err)
		}
	}
	for _, x := range [][2]int{{1, 2}, {63, 64}, {1, 64}} {
		got, err := bound.Lu(x[0], x[1], 1)
		expect(fmt.Sprintf("Lu of %v", x), got, err)
	}
}

// P34.2: with a greater side no bound is less, as it stands.
func TestGreater(t *testing.T) {
	notLess := func(what string, less, more api.Bound) {
		t.Helper()
		if float(more.E).Cmp(float(less.E)) < 0 || float(more.G).Cmp(float(less.G)) < 0 {
			t.Errorf("P34.2: %s: %v is less than %v", what, more, less)
		}
	}
	for n := 1; n < 64; n++ {
		less, _ := bound.Dot(n)
		more, _ := bound.Dot(n + 1)
		notLess(fmt.Sprintf("Dot of %d", n+1), less, more)
		for at := range 3 {
			a, b := [3]int{n, n, n}, [3]int{n, n, n}
			b[at]++
			less, _ = bound.Product(a[0], a[1], a[2], 64)
			more, _ = bound.Product(b[0], b[1], b[2], 64)
			notLess(fmt.Sprintf("Product of %v", b), less, more)
		}
		for _, unit := range []bool{false, true} {
			for _, upper := range []bool{false, true} {
				less, _ = bound.Tri(n, 5, upper, unit, 64)
				more, _ = bound.Tri(n+1, 5, upper, unit, 64)
				notLess(fmt.Sprintf("Tri of %d", n+1), less, more)
				more, _ = bound.Tri(n, 6, upper, unit, 64)
				notLess("Tri of 6 columns", less, more)
			}
		}
		less, _ = bound.Lu(64, n, 64)
		more, _ = bound.Lu(64, n+1, 64)
		notLess(fmt.Sprintf("Lu of 64, %d", n+1), less, more)
		less, _ = bound.Lu(n, 1+n/2, 64)
		more, _ = bound.Lu(n+1, 1+n/2, 64)
		notLess(fmt.Sprintf("Lu of %d", n+1), less, more)
		less, _ = bound.Chol(n, 64)
		more, _ = bound.Chol(n+1, 64)
		notLess(fmt.Sprintf("Chol of %d", n+1), less, more)
	}
}

func holdValue(t *testing.T, b api.Bound, x, y api.Dyadic, wide bool, want api.Dyadic, wantErr api.Errno) {
	t.Helper()
	got, err := bound.Value(b, x, y, wide)
	if !same(got, want) || err != wantErr {
		t.Errorf("P34.1: Value(%v, %v, %v, %v) = %v, error %d; want %v, error %d", b, x, y, wide, got, err, want, wantErr)
	}
}

func TestValue(t *testing.T) {
	b := api.Bound{E: dyad(-1, 3), G: dyad(-2, 5)} // 1.5, 1.25
	holdValue(t, b, dyad(0, 3), dyad(1, 5), false, dyad(-2, 185), api.OK)
	holdValue(t, b, dyad(0, 3), dyad(1, 5), true, dyad(2, 25), api.OK)
	b.G = dyad(0, 1)
	holdValue(t, b, dyad(0, 1), dyad(0, 1), true, dyad(-1, 11), api.OK)
	holdValue(t, b, minus(dyad(0, 1)), dyad(0, 1), true, minus(dyad(-1, 3)), api.OK)
	s := source(1)
	numbers := []api.Dyadic{{}, {Neg: true}, {Abs: []uint64{0, 0}, Exp: 77}, dyad(0, 1), minus(dyad(0, 1)), dyad(-53, 1), minus(dyad(-1074, 1)), dyad(971, 1<<53-1), dyad(-3, 12), dyad(64, 0, 5, 0), minus(dyad(-200, s.next(), s.next(), s.next()))}
	for _, e := range numbers {
		for _, g := range numbers {
			for _, x := range numbers {
				for _, y := range numbers {
					p := pair{float(e), float(g)}
					for _, wide := range []bool{false, true} {
						want := dyadicOf(p.value(float(x), float(y), wide))
						holdValue(t, api.Bound{E: e, G: g}, x, y, wide, want, api.OK)
					}
				}
			}
		}
	}
	// Nothing is rounded: 128 bits are for pairs.
	wide, _ := bound.Value(api.Bound{E: dyad(0, 1), G: dyad(-1000, 1)}, dyad(0, 1), dyad(0, 1), false)
	if len(wide.Abs) != 16 {
		t.Errorf("P34.1: Value has %d limbs", len(wide.Abs))
	}
}

// P34.1: dyadic's errors: numbers that may not be, ahead of what may not be told.
func TestValueErrors(t *testing.T) {
	good := dyad(0, 3)
	far := dyad(api.MaxExp, 1)
	for _, wide := range []bool{false, true} {
		for _, x := range []api.Dyadic{dyad(api.MaxExp+1, 1), dyad(-api.MaxExp-1, 1), {Abs: make([]uint64, api.MaxLimbs+1)}, {Exp: math.MinInt}, {Exp: math.MaxInt}, minus(dyad(api.MaxExp+1, 1))} {
			for _, other := range []api.Dyadic{good, {}, far, x} {
				holdValue(t, api.Bound{E: x, G: other}, other, other, wide, api.Dyadic{}, api.ErrState)
				holdValue(t, api.Bound{E: other, G: x}, other, other, wide, api.Dyadic{}, api.ErrState)
				holdValue(t, api.Bound{E: other, G: other}, x, other, wide, api.Dyadic{}, api.ErrState)
				holdValue(t, api.Bound{E: other, G: other}, other, x, wide, api.Dyadic{}, api.ErrState)
			}
		}
		holdValue(t, api.Bound{E: far, G: good}, far, good, wide, api.Dyadic{}, api.ErrRange)
		holdValue(t, api.Bound{E: good, G: good}, far, far, wide, api.Dyadic{}, api.ErrRange)
		long := api.Dyadic{Abs: slices.Repeat([]uint64{1<<64 - 1}, api.MaxLimbs)}
		holdValue(t, api.Bound{E: long, G: good}, good, good, wide, api.Dyadic{}, api.ErrRange)
		// What is even by itself, and may not be told so, may be a factor of 0.
		even := dyad(api.MaxExp, 2)
		holdValue(t, api.Bound{E: even, G: api.Dyadic{}}, api.Dyadic{}, good, wide, api.Dyadic{}, api.OK)
	}
	holdValue(t, api.Bound{E: good, G: far}, dyad(0, 1), good, true, api.Dyadic{}, api.ErrRange)
	bad := dyad(api.MaxExp+1, 1)
	holdValue(t, api.Bound{E: bad, G: far}, dyad(0, 1), dyad(0, 1), true, api.Dyadic{}, api.ErrState)
	holdValue(t, api.Bound{E: far, G: bad}, far, far, false, api.Dyadic{}, api.ErrState)
	holdValue(t, api.Bound{E: far, G: good}, far, bad, false, api.Dyadic{}, api.ErrState)
	holdValue(t, api.Bound{E: far, G: far}, bad, far, true, api.Dyadic{}, api.ErrState)
	holdValue(t, api.Bound{E: api.Dyadic{}, G: far}, far, far, false, far, api.OK)
}

// P34.3: what is handed in isn't changed, and shares nothing with what is told.
func TestMemory(t *testing.T) {
	for _, wide := range []bool{false, true} {
		for _, x := range []api.Dyadic{{}, dyad(0, 1), dyad(-70, 3, 5)} {
			for _, g := range []api.Dyadic{{}, dyad(0, 1), dyad(-70, 3, 5)} {
				lists := [4][]uint64{}
				for i, l := range []api.Dyadic{x, g, x, x} {
					lists[i] = append(make([]uint64, 0, 8), l.Abs...)
				}
				b := api.Bound{E: api.Dyadic{Abs: lists[0], Exp: x.Exp}, G: api.Dyadic{Abs: lists[1], Exp: g.Exp}}
				one, two := api.Dyadic{Abs: lists[2], Exp: x.Exp}, api.Dyadic{Abs: lists[3], Exp: x.Exp}
				got, _ := bound.Value(b, one, two, wide)
				told := slices.Clone(got.Abs)
				for i, l := range []api.Dyadic{x, g, x, x} {
					if want := append(slices.Clone(l.Abs), make([]uint64, 8-len(l.Abs))...); !slices.Equal(lists[i][:8], want) {
						t.Errorf("P34.3: Value changes its list %d", i)
					}
					for k := range lists[i] {
						lists[i][k] = ^lists[i][k]
					}
				}
				if !slices.Equal(got.Abs, told) {
					t.Errorf("P34.3: Value's answer is shared")
				}
			}
		}
	}
	for range 2 {
		for _, of := range []func() (api.Bound, api.Errno){
			func() (api.Bound, api.Errno) { return bound.Dot(1) },
			func() (api.Bound, api.Errno) { return bound.Product(4, 4, 4, 1) },
			func() (api.Bound, api.Errno) { return bound.Tri(2, 2, false, true, 1) },
			func() (api.Bound, api.Errno) { return bound.Lu(1, 1, 1) },
			func() (api.Bound, api.Errno) { return bound.Chol(2, 1) },
		} {
			got, _ := of()
			want := slices.Clone(got.E.Abs)
			again, _ := of()
			again.E.Abs[0], again.G.Abs[0] = 0, 0
			if !slices.Equal(got.E.Abs, want) || got.G.Abs[0] == 0 {
				t.Error("P34.3: a pair is shared")
			}
		}
	}
}
