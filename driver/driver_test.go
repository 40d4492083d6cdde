package driver_test

import (
	"fmt"
	"math"
	"slices"
	"strings"
	"testing"

	"vernier/api"
	"vernier/driver"
)

const (
	sign  = uint64(1) << 63
	one   = uint64(0x3ff0000000000000)
	two   = uint64(0x4000000000000000)
	great = uint64(0x7fefffffffffffff)
	inf   = uint64(0x7ff0000000000000)
)

// octets are a script's, by chapter 39's words.
func octets(l ...api.Step) []byte {
	var out []byte
	for _, x := range l {
		out = append(out, byte(x.Kind), byte(x.A), byte(x.B), byte(x.C), byte(x.N), byte(x.Mat.Rows), byte(x.Mat.Cols))
		for _, word := range x.Mat.Data {
			for shift := 56; shift >= 0; shift -= 8 {
				out = append(out, byte(word>>shift))
			}
		}
	}
	return out
}

// load is a step that loads a matrix into a register.
func load(reg, rows, cols int, l ...uint64) api.Step {
	return api.Step{Kind: 1, A: reg, Mat: api.Mat{Rows: rows, Cols: cols, Data: l}}
}

// step is one of that kind with these registers and cutoff.
func step(kind, a, b, c, n int) api.Step { return api.Step{Kind: kind, A: a, B: b, C: c, N: n} }

func hold(t *testing.T, what string, b []byte, want driver.Report, wantErr api.Errno) {
	t.Helper()
	got, err := driver.Main(b)
	if !slices.Equal(got.Codes, want.Codes) || got.Holds != want.Holds || got.Filled != want.Filled || got.Largest != want.Largest || err != wantErr {
		t.Errorf("P41.1: Main of %s = %v, error %d; want %v, error %d", what, got, err, want, wantErr)
	}
}

// P41.1: octets that are no script's.
func TestMainErrors(t *testing.T) {
	none := driver.Report{}
	steps := make([]api.Step, 257)
	hold(t, "257 steps", octets(steps...), none, api.ErrCount)
	hold(t, "257 steps, and an octet", append(octets(steps...), 0), none, api.ErrSyntax)
	hold(t, "one octet", []byte{0}, none, api.ErrSyntax)
	hold(t, "a step that ends", octets(load(0, 1, 1, one))[:14], none, api.ErrSyntax)
	hold(t, "a matrix of 65 rows", []byte{1, 0, 0, 0, 0, 65, 0}, none, api.ErrSyntax)
	hold(t, "65537 octets", make([]byte, api.MaxText+1), none, api.ErrLong)
	hold(t, "65536 octets", make([]byte, api.MaxText), none, api.ErrSyntax)
}

// P41.1: the chapter's example; steps that tell each error.
func TestMain(t *testing.T) {
	hold(t, "nothing", nil, driver.Report{}, api.OK)
	hold(t, "no octets", []byte{}, driver.Report{}, api.OK)
	hold(t, "256 steps that there are not", octets(make([]api.Step, 256)...), driver.Report{Codes: slices.Repeat([]api.Errno{api.ErrKind}, 256)}, api.OK)
	hold(t, "steps that tell errors", octets(
		load(0, 1, 1, two),
		load(1, 2, 2, one, two, two, one),
		load(2, 1, 2, inf, one),
		load(3, 1, 1, 1000<<52|1<<62),
		load(4, 2, 2, 0, 0, 0, 0),
		step(2, 5, 0, 0, 1),                // OK
		step(3, 5, 0, 1, 0),                // ErrShape
		step(2, 5, 0, 2, 1),                // ErrInput
		step(2, 5, 0, 0, 0),                // ErrRange
		step(2, 5, 3, 3, 1),                // ErrOverflow
		step(99, 0, 0, 0, 0),               // ErrKind
		step(2, 5, 6, 0, 1),                // ErrNone
		step(7, 5, 4, 1, 1),                // ErrZero
		step(8, 5, 4, 0, 1),                // ErrPivot
		load(6, 1, 2, one, sign|great),     // OK
		step(8, 5, 7, 0, 1),                // ErrNone
		load(4, 2, 2, one, two, sign|1, 0), // OK
		step(8, 5, 4, 0, 1),                // ErrState
		step(11, 0, 0, 0, 0),               // OK
		api.Step{Kind: 1, A: 7},            // ErrShape
		api.Step{Kind: 1, A: 200, N: 3},    // ErrRange
		step(5, 7, 2, 0, 0),                // OK
	), driver.Report{Codes: []api.Errno{0, 0, 0, 0, 0, 0, 11, 12, 4, 13, 23, 71, 7, 15, 0, 71, 0, 9, 0, 11, 4, 0}, Holds: true, Filled: 8, Largest: great}, api.OK)
}

// P41.1: Holds both ways; it is the last certificate's.
func TestHolds(t *testing.T) {
	a := load(0, 2, 2, one, two, two, one)
	hold(t, "no certificate", octets(a, step(2, 1, 0, 0, 1)), driver.Report{Codes: []api.Errno{0, 0}, Filled: 2, Largest: 0x4014000000000000}, api.OK)
	for kind, filled := range map[int]int{2: 2, 6: 2, 7: 2, 9: 2} {
		hold(t, fmt.Sprintf("a certificate of kind %d", kind), octets(load(0, 1, 1, one), step(kind, 1, 0, 0, 1), step(11, 0, 0, 0, 0)), driver.Report{Codes: []api.Errno{0, 0, 0}, Holds: true, Filled: filled, Largest: one}, api.OK)
	}
	hold(t, "a certificate of nothing", octets(a, step(11, 0, 0, 0, 0)), driver.Report{Codes: []api.Errno{0, 71}, Filled: 1, Largest: two}, api.OK)
}

// P41.1: the greatest Abs of the finite numbers in all registers.
func TestLargest(t *testing.T) {
	for _, x := range []struct {
		steps   []api.Step
		largest uint64
	}{
		{[]api.Step{load(0, 1, 1, 0)}, 0},
		{[]api.Step{load(0, 1, 2, sign, 0)}, 0},
		{[]api.Step{load(0, 1, 2, sign, 1)}, 1},
		{[]api.Step{load(0, 1, 2, sign|1, 0)}, 1},
		{[]api.Step{load(0, 1, 3, one, sign|two, one)}, two},
		{[]api.Step{load(0, 1, 3, sign|one, two, one)}, two},
		{[]api.Step{load(0, 1, 3, inf, sign|inf, api.NaN)}, 0},
		{[]api.Step{load(0, 1, 4, inf, sign|inf, api.NaN, sign|two), load(1, 1, 1, one)}, two},
		{[]api.Step{load(7, 1, 1, two), load(3, 1, 1, one)}, two},
		{[]api.Step{load(7, 1, 1, one), load(3, 1, 1, two)}, two},
		{[]api.Step{load(7, 1, 1, two), load(3, 1, 1, one), load(7, 1, 1, 1)}, one},
		{[]api.Step{load(0, 2, 2, 1<<63-1, 1<<64-1, inf+1, sign|great)}, great},
	} {
		filled := map[int]struct{}{}
		for _, y := range x.steps {
			filled[y.A] = struct{}{}
		}
		hold(t, fmt.Sprintf("%v", x.steps), octets(x.steps...), driver.Report{Codes: make([]api.Errno, len(x.steps)), Filled: len(filled), Largest: x.largest}, api.OK)
	}
	for filled := range 9 { // each register by itself, and as many
		var l []api.Step
		for reg := range filled {
			l = append(l, load(reg, 1, 1, one+uint64(reg)))
		}
		want := driver.Report{Codes: make([]api.Errno, filled), Filled: filled}
		if filled > 0 {
			want.Largest = one + uint64(filled) - 1
		}
		hold(t, fmt.Sprintf("%d registers", filled), octets(l...), want, api.OK)
	}
	hold(t, "a matrix of 64 by 64", octets(load(5, 64, 64, append(make([]uint64, 4095), sign|one)...)), driver.Report{Codes: []api.Errno{0}, Filled: 1, Largest: one}, api.OK)
}

func TestLine(t *testing.T) {
	for _, x := range []struct {
		r    driver.Report
		want string
	}{
		{driver.Report{}, "no 0 0"},
		{driver.Report{Codes: []api.Errno{}}, "no 0 0"},
		{driver.Report{Holds: true}, "yes 0 0"},
		{driver.Report{Codes: []api.Errno{0}, Holds: true, Filled: 1, Largest: one}, "0 yes 1 1p0"},
		{driver.Report{Codes: []api.Errno{0, 11, 71}, Filled: 8, Largest: great}, "0 11 71 no 8 1fffffffffffffp971"},
		{driver.Report{Codes: []api.Errno{-5, 1000000}, Filled: -3, Largest: sign | inf}, "-5 1000000 no -3 -inf"},
		{driver.Report{Codes: []api.Errno{math.MinInt, math.MaxInt}, Filled: math.MinInt, Largest: 1<<64 - 1}, "-9223372036854775808 9223372036854775807 no -9223372036854775808 nan"},
		{driver.Report{Codes: make([]api.Errno, 256), Holds: true, Filled: 2, Largest: sign}, strings.Repeat("0 ", 256) + "yes 2 -0"},
	} {
		if got := driver.Line(x.r); got != x.want {
			t.Errorf("P41.1: Line(%v) = %q, want %q", x.r, got, x.want)
		}
	}
	for filled := range 9 {
		for _, holds := range []bool{false, true} {
			want := fmt.Sprintf("23 %s %d 1p-1", map[bool]string{false: "no", true: "yes"}[holds], filled)
			if got := driver.Line(driver.Report{Codes: []api.Errno{23}, Holds: holds, Filled: filled, Largest: 1022 << 52}); got != want {
				t.Errorf("P41.1: Line = %q, want %q", got, want)
			}
		}
	}
	r, _ := driver.Main(nil)
	if got := driver.Line(r); got != "no 0 0" {
		t.Errorf("P41.1: Line of nothing = %q", got)
	}
}

// P41.2: what is handed in isn't changed, and shares nothing with what is told.
func TestMemory(t *testing.T) {
	b := octets(load(0, 1, 1, two), step(2, 1, 0, 0, 1), step(11, 0, 0, 0, 0))
	in := append(make([]byte, 0, len(b)+3), b...)
	r, _ := driver.Main(in)
	again, _ := driver.Main(in)
	if !slices.Equal(in[:len(b)+3], append(slices.Clone(b), 0, 0, 0)) {
		t.Error("P41.2: Main changes its octets")
	}
	clear(in)
	for k := range again.Codes {
		again.Codes[k] = -1
	}
	if !slices.Equal(r.Codes, []api.Errno{0, 0, 0}) || driver.Line(r) != "0 0 0 yes 2 1p2" || !slices.Equal(r.Codes, []api.Errno{0, 0, 0}) {
		t.Errorf("P41.2: Main's codes are shared, or changed by Line: %v", r)
	}
}
