package perm_test

import (
	"slices"
	"testing"

	"vernier/api"
	"vernier/perm"
)

// none are lists that are no permutations, or too long.
func none() [][]int {
	out := [][]int{{1}, {-1}, {0, 0}, {1, 1}, {1, 2}, {0, 2}, {2, 0}, {-1, 0}, {0, -1}, {0, 1, 1}, {1, 1, 0}, {0, 1, 3}, {3, 1, 0}, {2, 1, 2}, {1, 2, 3}, upTo(65), upTo(66), upTo(65)[1:], make([]int, 64), make([]int, 65)}
	for _, n := range far {
		out = append(out, []int{n}, []int{n, 0}, []int{0, n}, []int{1, 0, n})
	}
	long := upTo(64)
	long[63] = 64
	return append(out, long, slices.Insert(upTo(63), 0, 0), slices.Insert(upTo(63), 63, 62))
}

// some are permutations: the shortest, mixed ones of each length.
func some() [][]int {
	s := source(1)
	out := [][]int{nil, {}}
	for n := range 5 {
		out = append(out, all(n)...)
	}
	for n := range 65 {
		out = append(out, upTo(n), s.permutation(n))
	}
	return out
}

func holdCheck(t *testing.T, p []int, want api.Errno) {
	t.Helper()
	if got := perm.Check(p); got != want {
		t.Errorf("P17.1: Check(%d) = %d, want %d", p, got, want)
	}
}

func TestCheck(t *testing.T) {
	for _, p := range some() {
		holdCheck(t, p, api.OK)
	}
	for _, p := range none() {
		holdCheck(t, p, api.ErrState)
	}
	// All lists of three numbers.
	for a := -1; a <= 3; a++ {
		for b := -1; b <= 3; b++ {
			for c := -1; c <= 3; c++ {
				want := api.ErrState
				if mayBe([]int{a, b, c}) {
					want = api.OK
				}
				holdCheck(t, []int{a, b, c}, want)
			}
		}
	}
}

func TestIdentity(t *testing.T) {
	for n := range 65 {
		if got := perm.Identity(n); !slices.Equal(got, upTo(n)) {
			t.Errorf("P17.1: Identity(%d) = %d", n, got)
		}
	}
	for _, n := range append([]int{65, 66, 128}, far...) {
		if got := perm.Identity(n); len(got) != 0 {
			t.Errorf("P17.1: Identity(%d) = %d", n, got)
		}
	}
}

func holdOf(t *testing.T, n int, swaps, want []int, wantErr api.Errno) {
	t.Helper()
	if got, err := perm.Of(n, swaps...); !slices.Equal(got, want) || err != wantErr {
		t.Errorf("P17.1: Of(%d, %d) = %d, error %d; want %d, error %d", n, swaps, got, err, want, wantErr)
	}
}

func TestOf(t *testing.T) {
	holdOf(t, 2, []int{1}, []int{1, 0}, api.OK) // the chapter's example
	holdOf(t, 0, nil, nil, api.OK)
	holdOf(t, 0, []int{}, nil, api.OK)
	holdOf(t, 3, nil, []int{0, 1, 2}, api.OK)
	holdOf(t, 64, nil, upTo(64), api.OK)
	holdOf(t, 64, upTo(64), upTo(64), api.OK) // each row with itself
	holdOf(t, 3, []int{0}, []int{0, 1, 2}, api.OK)
	holdOf(t, 3, []int{2}, []int{2, 1, 0}, api.OK)
	holdOf(t, 3, []int{1, 2}, []int{1, 2, 0}, api.OK)
	holdOf(t, 3, []int{2, 2}, []int{2, 0, 1}, api.OK)
	holdOf(t, 3, []int{1, 2, 2}, []int{1, 2, 0}, api.OK)
	// With a row ahead.
	holdOf(t, 2, []int{1, 0}, []int{0, 1}, api.OK)
	holdOf(t, 3, []int{0, 0}, []int{1, 0, 2}, api.OK)
	holdOf(t, 3, []int{1, 2, 0}, []int{0, 2, 1}, api.OK)
	holdOf(t, 3, []int{0, 1, 0}, []int{2, 1, 0}, api.OK)
	holdOf(t, 4, []int{3, 3, 3, 3}, []int{3, 0, 1, 2}, api.OK)
	holdOf(t, 4, []int{1, 2, 3, 0}, []int{0, 2, 3, 1}, api.OK)
	s := source(2)
	for range 3000 {
		n := 1 + s.below(64)
		swaps := s.swaps(n)
		want := upTo(n)
		for i, k := range swaps {
			was := want[i]
			want[i] = want[k]
			want[k] = was
		}
		holdOf(t, n, swaps, want, api.OK)
	}
}

// P17.1: too many rows, too many swaps, swaps with a row that is none.
func TestOfBeyond(t *testing.T) {
	for _, n := range append([]int{65, 128}, far...) {
		holdOf(t, n, nil, nil, api.ErrRange)
		holdOf(t, n, []int{0}, nil, api.ErrRange)
	}
	for _, n := range []int{0, 1, 2, 3, 63, 64} {
		holdOf(t, n, make([]int, n+1), nil, api.ErrRange)
		holdOf(t, n, make([]int, n+2), nil, api.ErrRange)
		for _, row := range append([]int{n, n + 1}, far...) {
			for _, place := range []int{0, n / 2, n - 1} {
				if place < 0 {
					continue
				}
				swaps := make([]int, max(n, 1))
				swaps[min(place, len(swaps)-1)] = row
				holdOf(t, n, swaps, nil, api.ErrRange)
			}
			holdOf(t, n, []int{row}, nil, api.ErrRange)
		}
	}
}

func holdList(t *testing.T, what string, got []int, err api.Errno, want []int, wantErr api.Errno) {
	t.Helper()
	if !slices.Equal(got, want) || err != wantErr {
		t.Errorf("%s = %d, error %d; want %d, error %d", what, got, err, want, wantErr)
	}
}

func TestInverse(t *testing.T) {
	got, err := perm.Inverse([]int{2, 0, 3, 1})
	holdList(t, "P17.1: Inverse(2 0 3 1)", got, err, []int{1, 3, 0, 2}, api.OK)
	for _, p := range some() {
		want := make([]int, len(p))
		for i := range p {
			want[i] = slices.Index(p, i)
		}
		got, err := perm.Inverse(p)
		holdList(t, "P17.1: Inverse", got, err, want, api.OK)
	}
	for _, p := range none() {
		got, err := perm.Inverse(p)
		holdList(t, "P17.1: Inverse of none", got, err, nil, api.ErrState)
	}
}

func TestThen(t *testing.T) {
	got, err := perm.Then([]int{1, 2, 0}, []int{0, 2, 1})
	holdList(t, "P17.1: Then(1 2 0, 0 2 1)", got, err, []int{1, 0, 2}, api.OK)
	got, err = perm.Then([]int{0, 2, 1}, []int{1, 2, 0})
	holdList(t, "P17.1: Then(0 2 1, 1 2 0)", got, err, []int{2, 1, 0}, api.OK)
	s := source(3)
	for n := range 65 {
		p, q := s.permutation(n), s.permutation(n)
		want := []int{}
		for _, k := range q {
			want = append(want, p[k])
		}
		got, err := perm.Then(p, q)
		holdList(t, "P17.1: Then", got, err, want, api.OK)
		undo, _ := perm.Inverse(p)
		got, err = perm.Then(p, undo)
		holdList(t, "P17.1: Then, undone", got, err, upTo(n), api.OK)
		got, err = perm.Then(undo, p)
		holdList(t, "P17.1: Then, undone first", got, err, upTo(n), api.OK)
	}
}

// P17.1: unlike lengths, and lists that are none, which go ahead of these.
func TestThenOfNone(t *testing.T) {
	for _, lengths := range [][2]int{{0, 1}, {1, 0}, {2, 3}, {3, 2}, {63, 64}, {64, 63}} {
		got, err := perm.Then(upTo(lengths[0]), upTo(lengths[1]))
		holdList(t, "P17.1: Then of unlike lengths", got, err, nil, api.ErrShape)
	}
	for _, bad := range none() {
		for _, other := range [][]int{nil, {0}, {1, 0}, upTo(len(bad)), bad} {
			got, err := perm.Then(bad, other)
			holdList(t, "P17.1: Then of none first", got, err, nil, api.ErrState)
			got, err = perm.Then(other, bad)
			holdList(t, "P17.1: Then of none behind", got, err, nil, api.ErrState)
		}
	}
}

func holdRows(t *testing.T, a api.Mat, p []int, want api.Mat, wantErr api.Errno) {
	t.Helper()
	got, err := perm.Rows(a, p)
	if got.Rows != want.Rows || got.Cols != want.Cols || !slices.Equal(got.Data, want.Data) || err != wantErr {
		t.Errorf("P17.1: Rows of %d by %d, %d = %v, error %d; want %v, error %d", a.Rows, a.Cols, p, got, err, want, wantErr)
	}
}

func TestRows(t *testing.T) {
	holdRows(t, mat(3, 2, 1, 2, 3, 4, 5, 6), []int{2, 0, 1}, mat(3, 2, 5, 6, 1, 2, 3, 4), api.OK)
	s := source(4)
	for n := 1; n <= 64; n++ {
		cols := 1 + s.below(64)
		a, p := mat(n, cols, s.words(n*cols)...), s.permutation(n)
		want := mat(n, cols)
		for i := range n {
			for j := range cols {
				want.Data = append(want.Data, a.Data[p[i]*cols+j])
			}
		}
		holdRows(t, a, p, want, api.OK)
		// P17.2: undone, rows are as they were.
		undo, err := perm.Inverse(p)
		if err != api.OK {
			t.Errorf("P17.2: Inverse: error %d", err)
		}
		holdRows(t, want, undo, a, api.OK)
		back, _ := perm.Rows(a, undo)
		holdRows(t, back, p, a, api.OK)
		// P17.1: rows of what Then tells are those of one behind the other.
		q := s.permutation(n)
		both, _ := perm.Then(p, q)
		twice, _ := perm.Rows(want, q)
		holdRows(t, a, both, twice, api.OK)
	}
}

// P17.1: in the order of the errors: the matrix, the list, how many rows.
func TestRowsOfNone(t *testing.T) {
	broken := []api.Mat{{}, mat(1, 1), mat(2, 2, 1, 2, 3), mat(2, 1, 1, 2, 3), mat(-1, -1, 1), mat(0, 2), mat(2, 0), mat(65, 1, make([]uint64, 65)...), mat(1, 65, make([]uint64, 65)...)}
	for _, a := range broken {
		for _, p := range append(none(), nil, []int{0}, []int{1, 0}, upTo(64)) {
			holdRows(t, a, p, api.Mat{}, api.ErrShape)
		}
	}
	for _, p := range none() {
		holdRows(t, mat(1, 1, 7), p, api.Mat{}, api.ErrState)
		holdRows(t, mat(3, 1, 7, 8, 9), p, api.Mat{}, api.ErrState)
		holdRows(t, mat(64, 1, make([]uint64, 64)...), p, api.Mat{}, api.ErrState)
	}
	for _, rows := range []int{1, 2, 3, 64} {
		a := mat(rows, 2, make([]uint64, 2*rows)...)
		holdRows(t, a, upTo(rows-1), api.Mat{}, api.ErrShape)
		holdRows(t, a, nil, api.Mat{}, api.ErrShape)
		if rows < 64 {
			holdRows(t, a, upTo(rows+1), api.Mat{}, api.ErrShape)
		}
	}
}

func holdOdd(t *testing.T, p []int, want bool) {
	t.Helper()
	if got := perm.Odd(p); got != want {
		t.Errorf("P17.1: Odd(%d) = %v", p, got)
	}
}

func TestOdd(t *testing.T) {
	for _, p := range some() {
		holdOdd(t, p, inversions(p)%2 == 1)
	}
	for _, p := range all(6) {
		holdOdd(t, p, inversions(p)%2 == 1)
	}
	// One cycle of n numbers takes n less 1 swaps.
	for n := 1; n <= 64; n++ {
		holdOdd(t, append(upTo(n)[1:], 0), n%2 == 0)
	}
	// Two cycles, of even and odd lengths.
	holdOdd(t, []int{1, 0, 3, 2}, false)
	holdOdd(t, []int{1, 0, 3, 4, 2}, true)
	holdOdd(t, []int{1, 2, 0, 4, 5, 3}, false)
	holdOdd(t, []int{1, 2, 3, 0, 5, 4}, false)
	for _, p := range none() {
		holdOdd(t, p, false)
	}
}

// P17.3: what is handed in isn't changed, and shares nothing with what is told.
func TestMemory(t *testing.T) {
	s := source(5)
	for _, n := range []int{1, 2, 3, 64} {
		p, q, swaps := s.permutation(n), s.permutation(n), append(s.swaps(n), 0)[:1]
		holdMemory(t, "Identity", func([][]int) []int { return perm.Identity(n) })
		holdMemory(t, "Of", func(in [][]int) []int {
			got, _ := perm.Of(n, in[0]...)
			return got
		}, swaps)
		holdMemory(t, "Inverse", func(in [][]int) []int {
			got, _ := perm.Inverse(in[0])
			return got
		}, p)
		for _, second := range [][]int{q, upTo(n)} {
			holdMemory(t, "Then", func(in [][]int) []int {
				got, _ := perm.Then(in[0], in[1])
				return got
			}, p, second)
			holdMemory(t, "Rows, their list", func(in [][]int) []int {
				got, _ := perm.Rows(mat(n, 1, make([]uint64, n)...), in[0])
				return []int{got.Rows}
			}, second)
			holdMemory(t, "Rows", func(in [][]uint64) []uint64 {
				got, _ := perm.Rows(mat(n, 2, in[0]...), second)
				return got.Data
			}, s.words(2*n))
		}
		kept := slices.Clone(p)
		perm.Check(p)
		perm.Odd(p)
		if !slices.Equal(p, kept) {
			t.Errorf("P17.3: a call that only looks changes %d", kept)
		}
	}
}
