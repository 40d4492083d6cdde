package arena_test

import (
	"math"
	"slices"
	"testing"

	"vernier/api"
	"vernier/arena"
)

const most = 1 << 20 // words at most

// far are ints that are no side and no place.
var far = []int{-1, -2, -64, math.MinInt, math.MinInt + 1, math.MaxInt, math.MaxInt - 1, 1 << 32, -1 << 32, 1<<32 + 1, 1 << 62}

// sized is a view, just as it comes.
func sized(rows, cols, stride, off int) api.View {
	return api.View{Rows: rows, Cols: cols, Stride: stride, Off: off}
}

// holdState holds what an arena tells of itself.
func holdState(t *testing.T, a *arena.Arena, mark, high, left int) {
	t.Helper()
	if a.Mark() != mark || a.High() != high || a.Left() != left {
		t.Errorf("P18.1: Mark %d, High %d, Left %d; want %d, %d, %d", a.Mark(), a.High(), a.Left(), mark, high, left)
	}
}

func holdTake(t *testing.T, a *arena.Arena, rows, cols int, want api.View, wantErr api.Errno) {
	t.Helper()
	if got, err := a.Take(rows, cols); got != want || err != wantErr {
		t.Errorf("P18.1: Take(%d, %d) = %v, error %d; want %v, error %d", rows, cols, got, err, want, wantErr)
	}
}

func holdRelease(t *testing.T, a *arena.Arena, mark int, want api.Errno) {
	t.Helper()
	if got := a.Release(mark); got != want {
		t.Errorf("P18.1: Release(%d) = %d, want %d", mark, got, want)
	}
}

// holdNothing holds that nothing is lent for v.
func holdNothing(t *testing.T, a *arena.Arena, v api.View) {
	t.Helper()
	if got := a.Lend(v); len(got) != 0 {
		t.Errorf("P18.1: Lend(%v) has %d words with %d lent", v, len(got), a.Mark())
	}
}

// lend is what is lent for v, which has to be as many words as it says, and no
// room behind them.
func lend(t *testing.T, a *arena.Arena, v api.View) []uint64 {
	t.Helper()
	got := a.Lend(v)
	if len(got) != v.Rows*v.Cols {
		t.Fatalf("P18.1: Lend(%v) has %d words with %d lent", v, len(got), a.Mark())
	}
	return got
}

// fill writes n, n+1 and so on.
func fill(w []uint64, n uint64) {
	for i := range w {
		w[i] = n + uint64(i)
	}
}

func isZero(w []uint64) bool {
	return !slices.ContainsFunc(w, func(x uint64) bool { return x != 0 })
}

func TestNew(t *testing.T) {
	for _, c := range [][2]int{{0, 0}, {1, 1}, {4, 4}, {1000, 1000}, {most - 1, most - 1}, {most, most}, {most + 1, most}, {math.MaxInt, most}, {1 << 40, most}, {-1, 0}, {math.MinInt, 0}, {-1 << 32, 0}} {
		a := arena.New(c[0])
		holdState(t, a, 0, 0, c[1])
		if w := a.Words(); len(w) != c[1] || !isZero(w) {
			t.Errorf("P18.1: New(%d) has %d words, want %d of +0", c[0], len(w), c[1])
		}
	}
}

func TestTake(t *testing.T) {
	a := arena.New(4)
	holdTake(t, a, 2, 2, sized(2, 2, 2, 0), api.OK)
	holdState(t, a, 4, 4, 0) // the chapter's example
	holdTake(t, a, 1, 1, api.View{}, api.ErrArena)
	holdTake(t, a, 0, 0, sized(0, 0, 0, 4), api.OK)
	holdTake(t, a, 0, 64, sized(0, 64, 64, 4), api.OK)
	holdTake(t, a, 64, 0, sized(64, 0, 0, 4), api.OK)
	holdState(t, a, 4, 4, 0)

	a = arena.New(64*64 + 10)
	holdTake(t, a, 0, 5, sized(0, 5, 5, 0), api.OK)
	holdTake(t, a, 3, 0, sized(3, 0, 0, 0), api.OK)
	holdTake(t, a, 64, 64, sized(64, 64, 64, 0), api.OK)
	holdTake(t, a, 1, 3, sized(1, 3, 3, 4096), api.OK)
	holdTake(t, a, 3, 1, sized(3, 1, 1, 4099), api.OK)
	holdState(t, a, 4102, 4102, 4)
	holdTake(t, a, 1, 5, api.View{}, api.ErrArena) // one more than there are
	holdTake(t, a, 5, 1, api.View{}, api.ErrArena)
	holdTake(t, a, 2, 3, api.View{}, api.ErrArena)
	holdTake(t, a, 64, 64, api.View{}, api.ErrArena)
	holdState(t, a, 4102, 4102, 4)
	holdTake(t, a, 4, 1, sized(4, 1, 1, 4102), api.OK) // just what is left
	holdState(t, a, 4106, 4106, 0)

	a = arena.New(0)
	holdTake(t, a, 1, 1, api.View{}, api.ErrArena)
	holdTake(t, a, 0, 0, sized(0, 0, 0, 0), api.OK)
	a = arena.New(-5)
	holdTake(t, a, 1, 1, api.View{}, api.ErrArena)
}

// P18.1: sides that may not be go ahead of the words that are left.
func TestTakeBeyond(t *testing.T) {
	for _, words := range []int{0, 4, 5000, most} {
		a := arena.New(words)
		for _, n := range append([]int{65, 128}, far...) {
			holdTake(t, a, n, 1, api.View{}, api.ErrShape)
			holdTake(t, a, 1, n, api.View{}, api.ErrShape)
			holdTake(t, a, n, 0, api.View{}, api.ErrShape)
			holdTake(t, a, 0, n, api.View{}, api.ErrShape)
			holdTake(t, a, 64, n, api.View{}, api.ErrShape)
			holdTake(t, a, n, 64, api.View{}, api.ErrShape)
			holdTake(t, a, n, n, api.View{}, api.ErrShape)
		}
		holdState(t, a, 0, 0, words)
	}
}

// P18.1: all words of the greatest arena may be lent.
func TestTakeAll(t *testing.T) {
	a := arena.New(most)
	for i := range most / 4096 {
		holdTake(t, a, 64, 64, sized(64, 64, 64, 4096*i), api.OK)
	}
	holdState(t, a, most, most, 0)
	holdTake(t, a, 1, 1, api.View{}, api.ErrArena)
	holdTake(t, a, 2, 0, sized(2, 0, 0, most), api.OK)
	lend(t, a, sized(1, 1, 1, most-1))
	holdNothing(t, a, sized(1, 1, 1, most))
	holdNothing(t, a, sized(1, 2, 2, most-1))
}

func TestRelease(t *testing.T) {
	a := arena.New(20)
	holdRelease(t, a, 0, api.OK)
	holdRelease(t, a, 1, api.ErrRange)
	a.Take(2, 3)
	a.Take(3, 4)
	holdState(t, a, 18, 18, 2)
	for _, mark := range append([]int{19, 20, 21}, far...) {
		holdRelease(t, a, mark, api.ErrRange)
	}
	holdState(t, a, 18, 18, 2)
	holdRelease(t, a, 18, api.OK)
	holdState(t, a, 18, 18, 2)
	holdRelease(t, a, 6, api.OK)
	holdState(t, a, 6, 18, 14)
	holdRelease(t, a, 7, api.ErrRange) // it was lent, but is not any more
	holdRelease(t, a, 18, api.ErrRange)
	holdTake(t, a, 2, 2, sized(2, 2, 2, 6), api.OK)
	holdState(t, a, 10, 18, 10)
	holdRelease(t, a, 3, api.OK) // within what was taken
	holdState(t, a, 3, 18, 17)
	holdTake(t, a, 2, 8, sized(2, 8, 8, 3), api.OK)
	holdState(t, a, 19, 19, 1)
	holdRelease(t, a, 0, api.OK)
	holdState(t, a, 0, 19, 20)
	holdRelease(t, a, 0, api.OK)
	holdRelease(t, a, -1, api.ErrRange)
}

// P18.1: what is lent is +0, whatever was written to it ahead.
func TestLentAnew(t *testing.T) {
	a := arena.New(12)
	v, _ := a.Take(2, 3)
	kept := lend(t, a, v)
	fill(kept, 100)
	last, _ := a.Take(1, 6)
	fill(lend(t, a, last), 200)
	a.Release(3)
	v, _ = a.Take(2, 2)
	if w := lend(t, a, v); !isZero(w) {
		t.Errorf("P18.1: what is lent anew is %d", w)
	}
	// The words ahead of it stand as they were, and so do those behind it.
	if w := a.Words(); !slices.Equal(w[:7], []uint64{100, 101, 102, 0, 0, 0, 0}) {
		t.Errorf("P18.1: ahead of what is lent anew there is %d", w)
	}
	fill(kept, 300) // by one who gave it back
	a.Release(0)
	v, _ = a.Take(3, 4)
	if w := lend(t, a, v); !isZero(w) {
		t.Errorf("P18.1: what is lent anew is %d", w)
	}
}

func TestLend(t *testing.T) {
	a := arena.New(40)
	v, _ := a.Take(3, 4)
	u, _ := a.Take(2, 5)
	fill(lend(t, a, v), 100)
	fill(lend(t, a, u), 200)
	want := make([]uint64, 40)
	fill(want[:12], 100)
	fill(want[12:22], 200)
	if w := a.Words(); !slices.Equal(w, want) {
		t.Errorf("P18.1: what was written is %d", w)
	}
	// A part that is told likewise, and one that reaches over both.
	for _, part := range []api.View{sized(1, 1, 1, 0), sized(1, 4, 4, 4), sized(2, 2, 2, 3), sized(3, 3, 3, 11), sized(2, 11, 11, 0), sized(1, 1, 1, 21), sized(1, 22, 22, 0), sized(22, 1, 1, 0)} {
		if w := lend(t, a, part); !slices.Equal(w, want[part.Off:part.Off+part.Rows*part.Cols]) {
			t.Errorf("P18.1: Lend(%v) = %d", part, w)
		}
	}
	// They are the words themselves.
	lend(t, a, sized(1, 2, 2, 11))[1] = 7
	if w := lend(t, a, u); w[0] != 7 || a.Words()[12] != 7 {
		t.Errorf("P18.1: what was written to a part is %d in the view", w[0])
	}
}

// P18.1: nothing of other views, and of what is not all lent.
func TestLendNothing(t *testing.T) {
	a := arena.New(10000)
	a.Take(64, 64)
	a.Take(64, 64)
	a.Release(8000)
	for _, v := range []api.View{
		sized(2, 2, 3, 0), sized(2, 2, 1, 0), sized(2, 2, 0, 0), sized(2, 2, -2, 0), sized(1, 2, 3, 0), sized(1, 1, 0, 0), sized(2, 0, 1, 0), sized(0, 0, 1, 0),
		sized(-1, 2, 2, 0), sized(2, -1, -1, 0), sized(-2, -2, -2, 100), sized(65, 1, 1, 0), sized(1, 65, 65, 0), sized(65, 0, 0, 0), sized(0, 65, 65, 0), sized(-1, 0, 0, 0), sized(0, -1, -1, 0),
		sized(1, 1, 1, -1), sized(2, 2, 2, -1), sized(2, 2, 2, -4), sized(1, 1, 1, 8000), sized(1, 1, 1, 8001), sized(1, 2, 2, 7999), sized(2, 1, 1, 7999), sized(2, 2, 2, 7997), sized(64, 64, 64, 3905), sized(64, 64, 64, 8000), sized(1, 1, 1, 9999), sized(1, 1, 1, 10000),
		// Without a place, wherever.
		{}, sized(0, 3, 3, 0), sized(3, 0, 0, 0), sized(0, 0, 0, 8000), sized(0, 0, 0, 8001), sized(0, 0, 0, 10001), sized(0, 0, 0, -1), sized(0, 64, 64, 7990),
	} {
		holdNothing(t, a, v)
	}
	for _, n := range far {
		for _, v := range []api.View{sized(n, 1, 1, 0), sized(1, n, n, 0), sized(1, 1, n, 0), sized(1, 1, 1, n), sized(n, n, n, n), sized(0, 0, 0, n), sized(n, 0, 0, 0), sized(0, n, n, 0), sized(64, 64, 64, n)} {
			holdNothing(t, a, v)
		}
	}
	lend(t, a, sized(2, 2, 2, 7996))
	lend(t, a, sized(1, 1, 1, 7999))
	lend(t, a, sized(64, 64, 64, 3904))
	a.Release(0)
	holdNothing(t, a, sized(1, 1, 1, 0))
	holdNothing(t, a, sized(64, 64, 64, 0))
	holdNothing(t, arena.New(0), sized(1, 1, 1, 0))
	holdNothing(t, arena.New(5), sized(1, 1, 1, 0))
}

// P18.2: what is lent at a time is apart; an append to it goes elsewhere.
func TestApart(t *testing.T) {
	a := arena.New(3000)
	var views []api.View
	total := 0
	for rows := range 12 {
		for cols := range 12 {
			v, err := a.Take(rows, cols)
			if err != api.OK {
				break
			}
			if v != sized(rows, cols, cols, total) {
				t.Fatalf("P18.2: Take(%d, %d) = %v behind %d words", rows, cols, v, total)
			}
			views, total = append(views, v), total+rows*cols
			fill(lend(t, a, v), uint64(1000*len(views)))
		}
	}
	holdState(t, a, total, total, 3000-total)
	for i, v := range views {
		w := lend(t, a, v)
		if cap(w) != len(w) {
			t.Errorf("P18.2: Lend(%v) has room for %d words", v, cap(w))
		}
		_ = append(w, 5, 6, 7)
		for k, x := range lend(t, a, v) {
			if x != uint64(1000*(i+1)+k) {
				t.Fatalf("P18.2: word %d of %v is %d", k, v, x)
			}
		}
	}
	if w := a.Words(); !isZero(w[total:]) {
		t.Error("P18.2: words that are not lent were written to")
	}
}

// P18.3: Words are a copy, and two arenas share none.
func TestMemory(t *testing.T) {
	a, b := arena.New(6), arena.New(6)
	v, _ := a.Take(2, 3)
	fill(lend(t, a, v), 10)
	w, again := a.Words(), a.Words()
	fill(w, 50)
	if want := []uint64{10, 11, 12, 13, 14, 15}; !slices.Equal(a.Words(), want) || !slices.Equal(again, want) || !slices.Equal(a.Lend(v), want) {
		t.Error("P18.3: what is written to Words is in the arena")
	}
	fill(a.Lend(v), 70)
	if !slices.Equal(again, []uint64{10, 11, 12, 13, 14, 15}) {
		t.Error("P18.3: what is written to the arena is in what Words told")
	}
	if !isZero(b.Words()) {
		t.Error("P18.3: what is written to one arena is in another")
	}
	// What is told goes on growing in memory of its own.
	_ = append(a.Words()[:2], 1, 2)
	if !slices.Equal(a.Lend(v), []uint64{70, 71, 72, 73, 74, 75}) {
		t.Error("P18.3: an append to Words is in the arena")
	}
}

// P18.1: of an arena that nobody made.
func TestNobodyMade(t *testing.T) {
	for _, a := range []*arena.Arena{nil, {}, new(arena.Arena)} {
		for _, n := range append([]int{0, 1, 2, 64, 65}, far...) {
			holdTake(t, a, n, n, api.View{}, api.ErrState)
			holdTake(t, a, n, 1, api.View{}, api.ErrState)
			holdRelease(t, a, n, api.ErrState)
			holdNothing(t, a, sized(n, n, n, n))
			holdNothing(t, a, sized(1, 1, 1, n))
		}
		holdNothing(t, a, api.View{})
		holdState(t, a, 0, 0, 0)
		if w := a.Words(); len(w) != 0 {
			t.Errorf("P18.1: Words of one that nobody made: %d", w)
		}
	}
}
