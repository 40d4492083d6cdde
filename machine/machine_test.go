package machine_test

import (
	"fmt"
	"math"
	"slices"
	"testing"

	"vernier/api"
	"vernier/cert"
	"vernier/machine"
)

// load is a step that loads a matrix into a register.
func load(reg int, a api.Mat) api.Step { return api.Step{Kind: 1, A: reg, Mat: a} }

// step is one of that kind with these registers and cutoff.
func step(kind, a, b, c, n int) api.Step { return api.Step{Kind: kind, A: a, B: b, C: c, N: n} }

// do does steps, each of which should tell OK.
func do(t *testing.T, m *machine.Machine, steps ...api.Step) {
	t.Helper()
	for _, x := range steps {
		if err := m.Step(x); err != api.OK {
			t.Fatalf("P38.1: step %v tells %d", x, err)
		}
	}
}

// holdStep holds what a step tells.
func holdStep(t *testing.T, m *machine.Machine, x api.Step, want api.Errno) {
	t.Helper()
	if got := m.Step(x); got != want {
		t.Errorf("P38.1: step %v tells %d, want %d", x, got, want)
	}
}

// holdReg holds what Get tells of a register.
func holdReg(t *testing.T, m *machine.Machine, reg int, want api.Mat, wantErr api.Errno) {
	t.Helper()
	got, err := m.Get(reg)
	expect(t, fmt.Sprintf("P38.1: register %d", reg), got, err, want, wantErr)
}

// sameReport tells whether two reports are alike.
func sameReport(x, y cert.Report) bool {
	same := func(a, b api.Dyadic) bool { return a.Neg == b.Neg && a.Exp == b.Exp && slices.Equal(a.Abs, b.Abs) }
	return same(x.Bound, y.Bound) && same(x.Off, y.Off) && x.Holds == y.Holds
}

// holdReport holds the last report.
func holdReport(t *testing.T, m *machine.Machine, want cert.Report) {
	t.Helper()
	if got := m.Report(); !sameReport(got, want) {
		t.Errorf("P38.1: Report is %v, want %v", got, want)
	}
	if m.Holds() != want.Holds {
		t.Errorf("P38.1: Holds is %v", m.Holds())
	}
}

// state is all that a machine tells.
type state struct {
	regs   [8]api.Mat
	errs   [8]api.Errno
	report cert.Report
	holds  bool
	filled int
}

func stateOf(m *machine.Machine) state {
	out := state{report: m.Report(), holds: m.Holds(), filled: m.Filled()}
	for reg := range 8 {
		out.regs[reg], out.errs[reg] = m.Get(reg)
	}
	return out
}

// holdState holds that a machine is as it was.
func holdState(t *testing.T, what string, m *machine.Machine, was state) {
	t.Helper()
	now := stateOf(m)
	for reg := range 8 {
		expect(t, fmt.Sprintf("P38.1: %s: register %d", what, reg), now.regs[reg], now.errs[reg], was.regs[reg], was.errs[reg])
	}
	if !sameReport(now.report, was.report) || now.holds != was.holds || now.filled != was.filled {
		t.Errorf("P38.1: %s changes the report or how many are filled: %v, %v", what, now, was)
	}
}

// told is a report that a call of cert tells without an error.
func told(t *testing.T, r cert.Report, err api.Errno) cert.Report {
	t.Helper()
	if err != api.OK {
		t.Fatalf("the test's certificate has error %d", err)
	}
	return r
}

// P38.1: each kind of step, its matrix, its certificate; the cutoff is N.
func TestKinds(t *testing.T) {
	s := source(1)
	for _, n := range []int{1, 2, 3, 5} {
		for _, c := range []int{1, 2, 64} {
			_, even := s.square(n)
			a, b, d := s.firm(n), s.mat(n, n), s.triangle(n)
			m := machine.New()
			do(t, m, load(0, a), load(1, b), load(2, even), load(3, d))
			product := seven(a, b, c)
			f, swaps, _ := factored(b, c)
			l, _, _ := squared(even, c)
			g, gSwaps, _ := factored(a, c)
			y := recursed(g, false, true, swapped(b, gSwaps), c)
			x := recursed(g, true, false, y, c)
			inverse := recursed(d, false, false, unit(n), c)
			steps := []struct {
				x      api.Step
				want   api.Mat
				report func() (cert.Report, api.Errno)
			}{
				{step(2, 7, 0, 1, c), product, func() (cert.Report, api.Errno) { return cert.Product(a, b, product, c) }},
				{step(3, 7, 0, 1, 0), both(plus, a, b), nil},
				{step(4, 7, 0, 1, 0), both(less, a, b), nil},
				{step(5, 7, 1, 99, 0), transposed(b), nil},
				{step(6, 7, 1, 99, c), f, func() (cert.Report, api.Errno) { return cert.Lu(b, f, swaps, c) }},
				{step(7, 7, 0, 1, c), x, func() (cert.Report, api.Errno) { return cert.Solve(a, b, x, g, gSwaps, y, c) }},
				{step(8, 7, 2, -1, c), l, func() (cert.Report, api.Errno) { return cert.Chol(even, l, c) }},
				{step(9, 7, 3, -1, c), inverse, func() (cert.Report, api.Errno) { return cert.Lower(d, false, unit(n), inverse, c) }},
				{step(10, 7, 3, 1, c), recursed(d, true, false, b, c), nil},
			}
			var last cert.Report
			for k, y := range steps {
				do(t, m, y.x)
				holdReg(t, m, 7, y.want, api.OK)
				for reg, want := range []api.Mat{a, b, even, d} {
					holdReg(t, m, reg, want, api.OK)
				}
				if k > 0 {
					holdReport(t, m, last) // a step of another kind does not change it
				}
				if y.report != nil {
					r, err := y.report()
					last = told(t, r, err)
				}
				// Kinds that are not certified leave the step ahead to be.
				for range 2 {
					do(t, m, step(11, -1, 99, math.MinInt, -5))
					holdReport(t, m, last)
					if !m.Holds() {
						t.Errorf("P38.2: kind %d of %d rows, cutoff %d does not hold: %v", y.x.Kind, n, c, m.Report())
					}
				}
				holdReg(t, m, 7, y.want, api.OK)
			}
		}
	}
}

// P38.1: the chapter's example; kinds that there are not, ahead of registers.
func TestKind(t *testing.T) {
	m := machine.New()
	do(t, m, load(0, mat(1, 1, one)))
	was := stateOf(m)
	for _, kind := range []int{99, 0, 12, 13, -1, -2, -11, math.MinInt, math.MaxInt, 1 << 32, 1<<32 + 1, 255, 256, 257} {
		for _, reg := range []int{0, 1, -1, 8} {
			x := step(kind, reg, reg, reg, 1)
			x.Mat = mat(1, 1, two)
			holdStep(t, m, x, api.ErrKind)
			holdState(t, fmt.Sprintf("kind %d", kind), m, was)
		}
	}
}

// needs are the registers that a kind of step needs, of A, B, C.
var needs = [][3]bool{1: {true}, 2: {true, true, true}, 3: {true, true, true}, 4: {true, true, true}, 5: {true, true}, 6: {true, true}, 7: {true, true, true}, 8: {true, true}, 9: {true, true}, 10: {true, true, true}, 11: {}}

// P38.1: registers that there are not, and empty ones; in those that a step does
// not need they are of no matter.
func TestRegisters(t *testing.T) {
	for kind := 1; kind <= 11; kind++ {
		for at := range 3 {
			for _, reg := range []int{-1, 8, 9, 255, math.MinInt, math.MaxInt, 1 << 32, -1 << 32} {
				m := machine.New()
				do(t, m, load(0, mat(1, 1, one)), load(7, mat(1, 1, one)), step(2, 0, 7, 7, 1))
				was := stateOf(m)
				regs := [3]int{7, 0, 7}
				regs[at] = reg
				x := step(kind, regs[0], regs[1], regs[2], 1)
				x.Mat = mat(1, 1, one)
				want := api.OK
				if needs[kind][at] {
					want = api.ErrRange
				}
				holdStep(t, m, x, want)
				if want != api.OK {
					holdState(t, "a register that there is not", m, was)
					// It goes ahead of an empty one, and of what is loaded.
					x.Mat = api.Mat{}
					for k, field := range []*int{&x.A, &x.B, &x.C} {
						if k > 0 && k != at {
							*field = 5
						}
					}
					holdStep(t, m, x, api.ErrRange)
				}
			}
			// An empty register, of all numbers.
			for reg := range 8 {
				m := machine.New()
				full := (reg + 3) % 8
				do(t, m, load(full, mat(1, 1, one)), step(2, full, full, full, 1))
				was := stateOf(m)
				regs := [3]int{full, full, full}
				regs[at] = reg
				x := step(kind, regs[0], regs[1], regs[2], 1)
				x.Mat = mat(1, 1, one)
				want := api.OK
				if needs[kind][at] && at > 0 {
					want = api.ErrNone
				}
				holdStep(t, m, x, want)
				if want != api.OK {
					holdState(t, "an empty register", m, was)
					x.N = -1 // ahead of what is told of the matrices
					holdStep(t, m, x, api.ErrNone)
				}
			}
		}
	}
	m := machine.New()
	for _, reg := range []int{-1, 8, 64, math.MinInt, math.MaxInt, 1 << 32} {
		holdReg(t, m, reg, api.Mat{}, api.ErrRange)
	}
	for reg := range 8 {
		if m.Filled() != reg {
			t.Errorf("P38.1: Filled is %d, want %d", m.Filled(), reg)
		}
		holdReg(t, m, reg, api.Mat{}, api.ErrNone)
		do(t, m, load(reg, filled(reg+1, 2, uint64(reg))))
		holdReg(t, m, reg, filled(reg+1, 2, uint64(reg)), api.OK)
		do(t, m, load(reg, filled(2, reg+1, one)))
		holdReg(t, m, reg, filled(2, reg+1, one), api.OK)
	}
	if m.Filled() != 8 {
		t.Errorf("P38.1: Filled is %d, want 8", m.Filled())
	}
}

// P38.1: loading takes any words, but no matrix that may not be.
func TestLoad(t *testing.T) {
	m := machine.New()
	for _, a := range broken() {
		holdStep(t, m, load(0, a), api.ErrShape)
		holdReg(t, m, 0, api.Mat{}, api.ErrNone)
	}
	do(t, m, load(0, mat(1, 1, one)))
	for _, a := range broken() {
		holdStep(t, m, load(0, a), api.ErrShape)
		holdReg(t, m, 0, mat(1, 1, one), api.OK)
	}
	do(t, m, load(0, mat(3, 3, lost...)))
	holdReg(t, m, 0, mat(3, 3, lost...), api.OK)
	do(t, m, step(5, 1, 0, 0, 0))
	holdReg(t, m, 1, transposed(mat(3, 3, lost...)), api.OK)
	do(t, m, load(2, filled(64, 64, sign)))
	holdReg(t, m, 2, filled(64, 64, sign), api.OK)
}

// P38.1, G5: the others' errors, as they tell; what is not OK changes nothing, not
// what step 11 would certify, either.
func TestErrors(t *testing.T) {
	o := func(rows, cols int) api.Mat { return filled(rows, cols, one) }
	over := mat(2, 2, one, great, sign|one, great)
	for _, x := range []struct {
		kind, n int
		b, c    api.Mat
		want    api.Errno
	}{
		{2, 1, o(2, 3), o(2, 3), api.ErrShape}, {2, 0, o(2, 3), o(2, 3), api.ErrShape}, {2, 0, o(2, 2), o(2, 2), api.ErrRange}, {2, -1, o(1, 1), o(1, 1), api.ErrRange},
		{2, 1, mat(1, 1, inf), o(1, 1), api.ErrInput}, {2, 1, o(1, 1), mat(1, 1, api.NaN), api.ErrInput}, {2, 1, mat(1, 1, power(1000)), mat(1, 1, power(1000)), api.ErrOverflow},
		{3, 1, o(2, 3), o(3, 2), api.ErrShape}, {3, 1, mat(1, 1, inf), o(1, 1), api.ErrInput}, {3, 1, mat(1, 1, great), mat(1, 1, great), api.ErrOverflow},
		{4, 1, o(2, 3), o(3, 2), api.ErrShape}, {4, 1, o(1, 1), mat(1, 1, inf), api.ErrInput}, {4, 1, mat(1, 1, great), mat(1, 1, sign|great), api.ErrOverflow},
		{6, 1, o(2, 3), o(1, 1), api.ErrShape}, {6, 0, o(2, 2), o(1, 1), api.ErrRange}, {6, 1, mat(1, 1, inf), o(1, 1), api.ErrInput}, {6, 1, over, o(1, 1), api.ErrOverflow},
		{7, 1, o(2, 3), o(2, 1), api.ErrShape}, {7, 1, unit(2), o(3, 1), api.ErrShape}, {7, 0, unit(2), o(2, 1), api.ErrRange}, {7, 1, o(2, 2), o(2, 1), api.ErrZero}, {7, 1, over, o(2, 1), api.ErrOverflow}, {7, 1, mat(1, 1, inf), o(1, 1), api.ErrInput}, {7, 1, o(1, 1), mat(1, 1, inf), api.ErrInput},
		{8, 1, o(2, 3), o(1, 1), api.ErrShape}, {8, 1, mat(2, 2, one, one, two, one), o(1, 1), api.ErrState}, {8, 0, unit(2), o(1, 1), api.ErrRange}, {8, 1, filled(2, 2, 0), o(1, 1), api.ErrPivot}, {8, 1, mat(2, 2, one, great, great, one), o(1, 1), api.ErrOverflow}, {8, 1, mat(1, 1, inf), o(1, 1), api.ErrInput},
		{9, 1, o(2, 3), o(1, 1), api.ErrShape}, {9, 1, filled(2, 2, 0), o(1, 1), api.ErrZero}, {9, 0, unit(2), o(1, 1), api.ErrRange}, {9, 1, mat(1, 1, 1), o(1, 1), api.ErrOverflow}, {9, 1, mat(1, 1, inf), o(1, 1), api.ErrInput},
		{10, 1, o(2, 3), o(2, 1), api.ErrShape}, {10, 1, o(2, 2), o(3, 1), api.ErrShape}, {10, 1, filled(2, 2, 0), o(2, 1), api.ErrZero}, {10, 0, unit(2), o(2, 1), api.ErrRange}, {10, 1, mat(1, 1, 1), o(1, 1), api.ErrOverflow}, {10, 1, mat(1, 1, inf), o(1, 1), api.ErrInput},
	} {
		m := machine.New()
		do(t, m, load(0, mat(1, 1, of(3))), step(2, 1, 0, 0, 1), step(11, 0, 0, 0, 0))
		last := m.Report()
		do(t, m, load(3, mat(2, 2, of(3), of(1), of(1), of(3))), step(6, 4, 3, 0, 1), load(0, x.b), load(1, x.c))
		was := stateOf(m)
		for _, a := range []int{0, 1, 2, 4, 7} {
			holdStep(t, m, step(x.kind, a, 0, 1, x.n), x.want)
			holdState(t, fmt.Sprintf("a step of kind %d that tells %d", x.kind, x.want), m, was)
		}
		holdReport(t, m, last)
		do(t, m, step(11, 0, 0, 0, 0))
		f, swaps, _ := factored(mat(2, 2, of(3), of(1), of(1), of(3)), 1)
		r, err := cert.Lu(mat(2, 2, of(3), of(1), of(1), of(3)), f, swaps, 1)
		holdReport(t, m, told(t, r, err))
	}
}

// P38.1: step 11 first, and behind ones that it does not certify.
func TestCertifyNone(t *testing.T) {
	m := machine.New()
	holdStep(t, m, step(11, 0, 0, 0, 1), api.ErrNone)
	do(t, m, load(0, unit(2)), load(1, unit(2)))
	for _, kind := range []int{1, 3, 4, 5, 10} {
		x := step(kind, 2, 0, 1, 1)
		x.Mat = unit(2)
		do(t, m, x)
		holdStep(t, m, step(11, 0, 0, 0, 1), api.ErrNone)
		holdReport(t, m, cert.Report{})
	}
	holdStep(t, m, step(2, 2, 0, 1, 0), api.ErrRange)
	holdStep(t, m, step(11, 0, 0, 0, 1), api.ErrNone)
	do(t, m, step(2, 2, 0, 1, 1), step(11, 0, 0, 0, 0))
	if !m.Holds() || len(m.Report().Off.Abs) != 0 || len(m.Report().Bound.Abs) == 0 {
		t.Errorf("P38.1: Identity's square is %v", m.Report())
	}
}

// P38.1, P38.2: registers that are read and written by one step, and changed
// behind it, are certified as they were.
func TestCertifyKept(t *testing.T) {
	s := source(2)
	_, even := s.square(3)
	a := s.firm(3)
	for _, kind := range []int{2, 6, 7, 8, 9} {
		var want cert.Report
		for k, regs := range [][3]int{{2, 0, 1}, {0, 0, 1}, {1, 0, 1}, {0, 0, 0}} {
			m := machine.New()
			b := a
			if kind == 8 {
				b = even
			}
			do(t, m, load(0, b), load(1, b), step(kind, regs[0], regs[1], regs[2], 1))
			if k == 0 {
				do(t, m, step(11, 0, 0, 0, 0))
				want = m.Report()
				if !want.Holds {
					t.Errorf("P38.2: kind %d does not hold", kind)
				}
			}
			// All that is changed behind is of no matter.
			for reg := range 3 {
				do(t, m, load(reg, filled(2, 2, two)), step(3, reg, reg, reg, 0), step(5, reg, reg, 0, 0))
			}
			do(t, m, step(11, 0, 0, 0, 0))
			holdReport(t, m, want)
		}
	}
}

// P38.2: whatever the script, what is certified holds; each step tells what the
// words say of the registers as they stand.
func TestScripts(t *testing.T) {
	s := source(3)
	certified := 0
	for range 400 {
		m := machine.New()
		var regs [8]api.Mat
		for range 40 {
			x := api.Step{Kind: s.below(12), A: s.below(4), B: s.below(4), C: s.below(4), N: 1 + s.below(3)}
			n := 1 + s.below(4)
			switch s.below(6) {
			case 0:
				x.Mat = s.mat(n, n)
			case 1:
				x.Mat = s.mat(n, 1+s.below(3))
			case 2:
				x.Mat = s.triangle(n)
			case 3:
				_, x.Mat = s.square(n)
			case 4:
				x.Mat = filled(n, n, s.finite())
			case 5:
				x.Mat = s.firm(n)
			}
			if s.below(4) == 0 {
				x.Kind = 1
			}
			err := m.Step(x)
			if want, ok := expected(x, regs); ok {
				if err != api.OK || !sameMat(mustGet(m, x.A), want) {
					t.Fatalf("P38.1: step %v tells %d", x, err)
				}
				regs[x.A] = want
			} else if x.Kind != 11 && err == api.OK {
				t.Fatalf("P38.1: step %v tells OK", x)
			}
			if x.Kind == 11 && err == api.OK {
				certified++
				if !m.Holds() {
					t.Errorf("P38.2: what is certified does not hold: %v", m.Report())
				}
			}
			for reg := range 4 {
				if !sameMat(mustGet(m, reg), regs[reg]) {
					t.Fatalf("P38.1: step %v changes register %d", x, reg)
				}
			}
		}
	}
	if certified < 200 {
		t.Errorf("P38.2: the test certifies only %d times", certified)
	}
}

func mustGet(m *machine.Machine, reg int) api.Mat {
	out, _ := m.Get(reg)
	return out
}

func sameMat(a, b api.Mat) bool {
	return a.Rows == b.Rows && a.Cols == b.Cols && slices.Equal(a.Data, b.Data)
}

// expected is what a step makes of registers, if it tells OK.
func expected(x api.Step, regs [8]api.Mat) (api.Mat, bool) {
	b, c := regs[x.B], regs[x.C]
	none := func(bad bool) bool { return bad || b.Rows == 0 }
	var out api.Mat
	switch x.Kind {
	case 1:
		return x.Mat, true
	case 2:
		if none(c.Rows == 0 || b.Cols != c.Rows) {
			return out, false
		}
		out = seven(b, c, x.N)
	case 3, 4:
		if none(b.Rows != c.Rows || b.Cols != c.Cols) {
			return out, false
		}
		out = both(map[int]func(a, b uint64) uint64{3: plus, 4: less}[x.Kind], b, c)
	case 5:
		if none(false) {
			return out, false
		}
		out = transposed(b)
	case 6:
		if none(b.Rows < b.Cols) {
			return out, false
		}
		out, _, _ = factored(b, x.N)
	case 7:
		if none(b.Rows != b.Cols || c.Rows != b.Rows) {
			return out, false
		}
		f, swaps, zero := factored(b, x.N)
		if zero >= 0 || !finite(f) {
			return out, false
		}
		y := recursed(f, false, true, swapped(c, swaps), x.N)
		out = recursed(f, true, false, y, x.N)
		return out, finite(y, out)
	case 8:
		if none(!sameMat(b, transposed(b))) {
			return out, false
		}
		l, place, ok := squared(b, x.N)
		return l, ok && place < 0
	case 9, 10:
		if x.Kind == 9 {
			c = unit(b.Rows)
		}
		if none(b.Rows != b.Cols || c.Rows != b.Rows) {
			return out, false
		}
		for i := range b.Rows {
			if b.Data[i*b.Cols+i]&^sign == 0 {
				return out, false
			}
		}
		out = recursed(b, x.Kind == 10, false, c, x.N)
	default:
		return out, false
	}
	return out, finite(out)
}

// P38.1: a machine that is nil or that New did not make.
func TestNobodys(t *testing.T) {
	for _, m := range []*machine.Machine{nil, {}, new(machine.Machine)} {
		for _, x := range []api.Step{load(0, unit(2)), {}, step(99, 0, 0, 0, 0), step(2, -1, -1, 9, 1), step(11, 0, 0, 0, 0), load(0, api.Mat{})} {
			if err := m.Step(x); err != api.ErrState {
				t.Errorf("P38.1: step %v of a machine that nobody made tells %d", x, err)
			}
		}
		for _, reg := range []int{0, 7, -1, 8} {
			got, err := m.Get(reg)
			expect(t, "P38.1: Get of a machine that nobody made", got, err, api.Mat{}, api.ErrState)
		}
		if m.Holds() || m.Filled() != 0 || !sameReport(m.Report(), cert.Report{}) {
			t.Error("P38.1: a machine that nobody made holds something")
		}
	}
	holdReport(t, machine.New(), cert.Report{})
	if machine.New() == machine.New() {
		t.Error("P38.1: New tells one machine twice")
	}
}

// P38.3: what is loaded, or told, may be changed behind.
func TestMemory(t *testing.T) {
	m := machine.New()
	a := append(make([]uint64, 0, 8), filled(2, 2, of(3)).Data...)
	do(t, m, load(0, mat(2, 2, a...)), api.Step{Kind: 1, A: 1, Mat: api.Mat{Rows: 2, Cols: 2, Data: a}})
	if !slices.Equal(a[:8], append(filled(2, 2, of(3)).Data, 0, 0, 0, 0)) {
		t.Error("P38.3: what is loaded is changed")
	}
	clear(a)
	holdReg(t, m, 1, filled(2, 2, of(3)), api.OK)
	do(t, m, step(2, 2, 0, 1, 1), load(3, mat(2, 2, of(3), one, one, of(3))), step(6, 4, 3, 0, 1), step(7, 5, 3, 0, 1), step(8, 6, 3, 0, 1), step(9, 7, 3, 0, 1))
	for reg := range 8 {
		got, _ := m.Get(reg)
		told := slices.Clone(got.Data)
		again, _ := m.Get(reg)
		clear(again.Data)
		last, _ := m.Get(reg)
		if !slices.Equal(got.Data, told) || !slices.Equal(last.Data, told) {
			t.Errorf("P38.3: register %d is shared", reg)
		}
		clear(got.Data)
	}
	do(t, m, step(11, 0, 0, 0, 0))
	report := m.Report()
	bound, off := slices.Clone(report.Bound.Abs), slices.Clone(report.Off.Abs)
	for _, l := range [][]uint64{m.Report().Bound.Abs, m.Report().Off.Abs, report.Bound.Abs, report.Off.Abs} {
		clear(l)
	}
	if now := m.Report(); !slices.Equal(now.Bound.Abs, bound) || !slices.Equal(now.Off.Abs, off) || len(bound) == 0 || len(off) == 0 {
		t.Errorf("P38.3: the report is shared: %v", now)
	}
	// Two machines share nothing.
	other := machine.New()
	do(t, other, load(0, unit(2)))
	holdReg(t, m, 0, filled(2, 2, of(3)), api.OK)
	holdReport(t, other, cert.Report{})
}
