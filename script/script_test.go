package script_test

import (
	"fmt"
	"math"
	"slices"
	"testing"

	"vernier/api"
	"vernier/script"
)

// one is the number 1.
const one = uint64(0x3ff0000000000000)

// mat is a matrix, just as it comes.
func mat(rows, cols int, l ...uint64) api.Mat { return api.Mat{Rows: rows, Cols: cols, Data: l} }

// filled is a matrix of one number.
func filled(rows, cols int, a uint64) api.Mat {
	return mat(rows, cols, slices.Repeat([]uint64{a}, rows*cols)...)
}

// source is a rule of numbers that look mixed, the same in every run.
type source uint64

func (s *source) next() uint64 {
	*s += 0x9e3779b97f4a7c15
	z := uint64(*s)
	z = (z ^ z>>30) * 0xbf58476d1ce4e5b9
	z = (z ^ z>>27) * 0x94d049bb133111eb
	return z ^ z>>31
}

// below is a number from 0 to n-1.
func (s *source) below(n int) int { return int(s.next() % uint64(n)) }

// step makes a step of any octets, its matrix of the given sides and any words.
func (s *source) step(rows, cols int) api.Step {
	x := api.Step{Kind: s.below(256), A: s.below(256), B: s.below(256), C: s.below(256), N: s.below(256)}
	x.Mat = mat(rows, cols)
	for range rows * cols {
		x.Mat.Data = append(x.Mat.Data, s.next())
	}
	return x
}

func sameStep(x, y api.Step) bool {
	return x.Kind == y.Kind && x.A == y.A && x.B == y.B && x.C == y.C && x.N == y.N && x.Mat.Rows == y.Mat.Rows && x.Mat.Cols == y.Mat.Cols && slices.Equal(x.Mat.Data, y.Mat.Data)
}

// octetsOf are a script's octets, by the chapter's words.
func octetsOf(l []api.Step) []byte {
	var out []byte
	for _, x := range l {
		out = append(out, byte(x.Kind), byte(x.A), byte(x.B), byte(x.C), byte(x.N), byte(x.Mat.Rows), byte(x.Mat.Cols))
		for _, word := range x.Mat.Data {
			for shift := 56; shift >= 0; shift -= 8 {
				out = append(out, byte(word>>shift))
			}
		}
	}
	return out
}

func holdPut(t *testing.T, what string, l []api.Step, want []byte, wantErr api.Errno) {
	t.Helper()
	if got, err := script.Put(l); !slices.Equal(got, want) || err != wantErr {
		t.Errorf("P39.1: Put of %s = %d octets, error %d; want %d, error %d", what, len(got), err, len(want), wantErr)
	}
}

func holdRead(t *testing.T, what string, b []byte, want []api.Step, wantErr api.Errno) {
	t.Helper()
	if got, err := script.Read(b); !slices.EqualFunc(got, want, sameStep) || err != wantErr {
		t.Errorf("P39.1: Read of %s = %d steps, error %d; want %d, error %d", what, len(got), err, len(want), wantErr)
	}
}

// holdBoth holds that a script is put so, and comes back.
func holdBoth(t *testing.T, what string, l []api.Step) {
	t.Helper()
	holdPut(t, what, l, octetsOf(l), api.OK)
	got, err := script.Read(octetsOf(l))
	if !slices.EqualFunc(got, l, sameStep) || err != api.OK {
		t.Errorf("P39.2: %s does not come back: %d steps of %d, error %d", what, len(got), len(l), err)
	}
}

// long is a script of that many octets, of as many steps, three or more, as let
// the words come out even.
func long(octets int) []api.Step {
	steps := 3
	for (octets-7*steps)%8 != 0 {
		steps++
	}
	left := (octets - 7*steps) / 8
	var out []api.Step
	for range steps {
		rows, cols := min(64, left), 1
		if left >= 64 {
			cols = min(64, left/64)
		}
		out = append(out, api.Step{Kind: 1, Mat: filled(rows, cols, one)})
		left -= rows * cols
	}
	return out
}

// P39.1, P39.2: no steps, one, 256; all octets unlike.
func TestBoth(t *testing.T) {
	holdBoth(t, "nothing", nil)
	holdBoth(t, "an empty list", []api.Step{})
	holdPut(t, "one step", []api.Step{{Kind: 1, A: 2, B: 3, C: 4, N: 5, Mat: mat(1, 2, 0x0102030405060708, 0xf1f2f3f4f5f6f7f8)}}, []byte{1, 2, 3, 4, 5, 1, 2, 1, 2, 3, 4, 5, 6, 7, 8, 0xf1, 0xf2, 0xf3, 0xf4, 0xf5, 0xf6, 0xf7, 0xf8}, api.OK)
	s := source(1)
	for _, sides := range [][2]int{{0, 0}, {0, 5}, {5, 0}, {0, 64}, {64, 0}, {1, 1}, {1, 2}, {2, 1}, {3, 4}, {64, 1}, {1, 64}, {64, 64}} {
		x := s.step(sides[0], sides[1])
		holdBoth(t, fmt.Sprintf("one step with %d by %d", sides[0], sides[1]), []api.Step{x})
		holdBoth(t, fmt.Sprintf("three steps with %d by %d", sides[0], sides[1]), []api.Step{s.step(0, 0), x, s.step(1, 1)})
	}
	for range 50 {
		var l []api.Step
		for range s.below(20) {
			l = append(l, s.step(s.below(6), s.below(6)))
		}
		holdBoth(t, "some steps", l)
	}
	var l []api.Step
	for range 256 {
		l = append(l, s.step(2, 2))
	}
	holdBoth(t, "256 steps", l)
}

// P39.1: more than MaxSteps: ahead of all else in Put, behind it in Read.
func TestCount(t *testing.T) {
	l := make([]api.Step, 257)
	holdPut(t, "257 steps", l, nil, api.ErrCount)
	holdRead(t, "257 steps", octetsOf(l), nil, api.ErrCount)
	holdRead(t, "256 steps", octetsOf(l[1:]), l[1:], api.OK)
	holdRead(t, "257 steps and an octet", append(octetsOf(l), 0), nil, api.ErrSyntax)
	holdRead(t, "256 steps and one that ends", append(octetsOf(l[1:]), 0, 0, 0), nil, api.ErrSyntax)
	holdRead(t, "9362 steps", make([]byte, 9362*7), nil, api.ErrCount)
	for _, x := range []api.Step{{Kind: -1}, {N: 256}, {Mat: mat(1, 1)}, {Mat: filled(64, 64, 0)}} {
		l[3] = x
		holdPut(t, "257 steps, one of which may not be", l, nil, api.ErrCount)
	}
	if codes, m, err := script.Run(l); codes != nil || m != nil || err != api.ErrCount {
		t.Errorf("P39.1: Run of 257 steps = %v, %v, %d", codes, m, err)
	}
}

// P39.1: each number at the ends of what an octet tells, and beyond.
func TestRange(t *testing.T) {
	for at := range 5 {
		for _, n := range []int{0, 1, 127, 128, 255, 256, -1, 257, 511, math.MinInt, math.MaxInt, 1 << 32, -256} {
			var x api.Step
			*[5]*int{&x.Kind, &x.A, &x.B, &x.C, &x.N}[at] = n
			for _, l := range [][]api.Step{{x}, {{}, x}, {x, {}}} {
				what := fmt.Sprintf("%d as number %d", n, at)
				if n >= 0 && n <= 255 {
					holdBoth(t, what, l)
					continue
				}
				holdPut(t, what, l, nil, api.ErrRange)
				// It goes ahead of what may not be a matrix, in an earlier step, too.
				for _, a := range []api.Mat{mat(1, 1), mat(65, 0), mat(-1, 1)} {
					holdPut(t, what+" and a matrix that may not be", append([]api.Step{{Mat: a}}, l...), nil, api.ErrRange)
					x.Mat = a
					holdPut(t, what+" and a matrix that may not be", []api.Step{x}, nil, api.ErrRange)
				}
			}
		}
	}
}

// P39.1: matrices that may not be, in Put; octets that tell none, in Read.
func TestShape(t *testing.T) {
	for _, a := range []api.Mat{mat(-1, 0), mat(0, -1), mat(-1, -1, one), mat(65, 0), mat(0, 65), mat(65, 65), filled(65, 1, one), filled(1, 65, one), mat(1, 1), mat(0, 0, one), mat(0, 5, one), mat(2, 2, one, one, one), mat(2, 2, one, one, one, one, one), mat(64, 64), mat(math.MinInt, 0), mat(0, math.MaxInt), mat(1<<32, 1<<32), mat(math.MinInt, 2), mat(-2, -2, one, one, one, one), mat(256, 0), mat(0, 256)} {
		for _, l := range [][]api.Step{{{Mat: a}}, {{}, {Mat: a}}, {{Mat: a}, {}}} {
			holdPut(t, fmt.Sprintf("%d by %d, %d words", a.Rows, a.Cols, len(a.Data)), l, nil, api.ErrShape)
		}
		// It goes ahead of the length.
		great := api.Step{Mat: filled(64, 64, one)}
		holdPut(t, "too many octets, and a matrix that may not be", []api.Step{great, great, {Mat: a}}, nil, api.ErrShape)
	}
	for _, x := range [][2]byte{{65, 0}, {0, 65}, {65, 65}, {255, 255}, {65, 1}, {1, 65}, {128, 0}, {0, 255}} {
		b := append([]byte{1, 0, 0, 0, 0, x[0], x[1]}, make([]byte, 60000)...)
		holdRead(t, fmt.Sprintf("%d by %d", x[0], x[1]), b, nil, api.ErrSyntax)
		holdRead(t, fmt.Sprintf("%d by %d alone", x[0], x[1]), b[:7], nil, api.ErrSyntax)
		holdRead(t, fmt.Sprintf("%d by %d behind another", x[0], x[1]), append(make([]byte, 7), b[:7+8*65]...), nil, api.ErrSyntax)
	}
}

// P39.1: texts of just MaxText octets, and one more.
func TestLong(t *testing.T) {
	for _, n := range []int{api.MaxText - 1, api.MaxText} {
		if l := long(n); len(octetsOf(l)) != n {
			t.Errorf("the test's script has %d octets", len(octetsOf(l)))
		}
		holdBoth(t, fmt.Sprintf("%d octets", n), long(n))
	}
	for _, n := range []int{api.MaxText + 1, api.MaxText + 2, 70000} {
		l := long(n)
		if len(octetsOf(l)) != n {
			t.Errorf("the test's script has %d octets", len(octetsOf(l)))
		}
		holdPut(t, fmt.Sprintf("%d octets", n), l, nil, api.ErrLong)
		holdRead(t, fmt.Sprintf("%d octets", n), octetsOf(l), nil, api.ErrLong)
		holdRead(t, fmt.Sprintf("%d octets that are no script's", n), slices.Repeat([]byte{255}, n), nil, api.ErrLong)
	}
	l := slices.Repeat([]api.Step{{Mat: filled(64, 64, one)}}, 256)
	holdPut(t, "256 of the greatest steps", l, nil, api.ErrLong)
	holdRead(t, "65536 octets that are no script's", slices.Repeat([]byte{255}, api.MaxText), nil, api.ErrSyntax)
}

// P39.1: octets that end within a step, at each place.
func TestSyntax(t *testing.T) {
	s := source(2)
	l := []api.Step{s.step(0, 0), s.step(1, 2), s.step(2, 2), s.step(3, 0)}
	b := octetsOf(l)
	ends := map[int]int{}
	for k := range l {
		ends[len(octetsOf(l[:k]))] = k
	}
	for n := range len(b) {
		if k, ok := ends[n]; ok {
			holdRead(t, fmt.Sprintf("%d octets of %d", n, len(b)), b[:n], l[:k], api.OK)
		} else {
			holdRead(t, fmt.Sprintf("%d octets of %d", n, len(b)), b[:n], nil, api.ErrSyntax)
		}
	}
	holdRead(t, "nil", nil, nil, api.OK)
	holdRead(t, "no octets", []byte{}, nil, api.OK)
}

// P39.1: each step tells its error, and one that is not OK does not end it.
func TestRun(t *testing.T) {
	l := []api.Step{
		{Kind: 11},
		{Kind: 1, A: 0, Mat: mat(1, 1, one)},
		{Kind: 99},
		{Kind: 2, A: 1, B: 0, C: 5, N: 1},
		{Kind: 2, A: 1, B: 0, C: 0, N: 0},
		{Kind: 2, A: 1, B: 0, C: 0, N: 1},
		{Kind: 1, A: 8, Mat: mat(1, 1, one)},
		{Kind: 1, A: 2, Mat: mat(1, 2, one)},
		{Kind: -1, A: -1},
		{Kind: 11},
		{Kind: 3, A: 2, B: 1, C: 0},
	}
	want := []api.Errno{api.ErrNone, api.OK, api.ErrKind, api.ErrNone, api.ErrRange, api.OK, api.ErrRange, api.ErrShape, api.ErrKind, api.OK, api.OK}
	codes, m, err := script.Run(l)
	if !slices.Equal(codes, want) || err != api.OK {
		t.Errorf("P39.1: Run = %v, error %d; want %v", codes, err, want)
	}
	got, _ := m.Get(2)
	if m.Filled() != 3 || !m.Holds() || !slices.Equal(got.Data, []uint64{0x4000000000000000}) {
		t.Errorf("P39.1: Run's machine has %d registers, %v, %#x", m.Filled(), m.Holds(), got.Data)
	}
	for _, none := range [][]api.Step{nil, {}} {
		codes, m, err := script.Run(none)
		if len(codes) != 0 || m == nil || m.Filled() != 0 || m.Holds() || err != api.OK {
			t.Errorf("P39.1: Run of nothing = %v, %v, %d", codes, m, err)
		}
		if err := m.Step(l[1]); err != api.OK {
			t.Errorf("P39.1: Run of nothing tells a machine that tells %d", err)
		}
	}
	many := slices.Repeat([]api.Step{{Kind: 1, A: 7, Mat: mat(1, 1, one)}}, 256)
	if codes, m, err := script.Run(many); len(codes) != 256 || slices.Max(codes) != api.OK || m.Filled() != 1 || err != api.OK {
		t.Errorf("P39.1: Run of 256 steps = %v, error %d", codes, err)
	}
}

// P39.3: what is handed in isn't changed, and shares nothing with what is told.
func TestMemory(t *testing.T) {
	s := source(3)
	l := []api.Step{s.step(1, 2), s.step(2, 2)}
	l[0].Kind, l[0].A, l[1].Kind, l[1].A = 1, 0, 1, 1
	var kept []api.Step
	for _, x := range l {
		x.Mat.Data = slices.Clone(x.Mat.Data)
		kept = append(kept, x)
	}
	in := append(make([]api.Step, 0, 4), l...)
	b, _ := script.Put(in)
	codes, m, _ := script.Run(in)
	if !slices.EqualFunc(in, kept, sameStep) || !sameStep(in[:3][2], api.Step{}) {
		t.Error("P39.3: Put or Run changes its list")
	}
	text := append(make([]byte, 0, len(b)+3), b...)
	told, _ := script.Read(text)
	if !slices.Equal(text[:len(b)+3], append(slices.Clone(b), 0, 0, 0)) {
		t.Error("P39.3: Read changes its octets")
	}
	for k := range text {
		text[k] = ^text[k]
	}
	for k := range in {
		clear(in[k].Mat.Data)
	}
	again, _ := script.Put(kept)
	got, _ := m.Get(1)
	if !slices.EqualFunc(told, kept, sameStep) || !slices.Equal(b, again) || !slices.Equal(got.Data, kept[1].Mat.Data) {
		t.Error("P39.3: an answer is shared")
	}
	clear(told[0].Mat.Data[:cap(told[0].Mat.Data)])
	if !sameStep(told[1], kept[1]) {
		t.Error("P39.3: two steps of Read share words")
	}
	other, next, _ := script.Run(kept)
	other[0] = 99
	next.Step(api.Step{Kind: 1, A: 5, Mat: mat(1, 1, one)})
	if codes[0] != api.OK || m.Filled() != 2 {
		t.Error("P39.3: two runs share a machine or codes")
	}
}
