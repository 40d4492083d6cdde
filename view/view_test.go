package view_test

import (
	"math"
	"slices"
	"testing"

	"vernier/api"
	"vernier/view"
)

func holdCheck(t *testing.T, v api.View, words int, want api.Errno) {
	t.Helper()
	if got := view.Check(v, words); got != want {
		t.Errorf("P15.1: Check(%v, %d) = %d, want %d", v, words, got, want)
	}
}

// P15.1: each side, Stride and Off at its ends, and one beyond.
func TestCheckEnds(t *testing.T) {
	for _, c := range []struct {
		v    api.View
		want api.Errno
	}{
		{sized(1, 1, 1, 0), api.OK}, {sized(64, 64, 64, 0), api.OK}, {sized(65, 1, 1, 0), api.ErrShape}, {sized(1, 65, 65, 0), api.ErrShape}, {sized(65, 0, 0, 0), api.ErrShape}, {sized(0, 65, 65, 0), api.ErrShape}, {sized(-1, 1, 1, 0), api.ErrShape}, {sized(1, -1, 1, 0), api.ErrShape}, {sized(1, -1, -1, 0), api.ErrShape}, {sized(-1, -1, -1, 0), api.ErrShape}, {sized(-1, 0, 0, 0), api.ErrShape}, {sized(0, -1, 0, 0), api.ErrShape},
		{sized(2, 3, 3, 0), api.OK}, {sized(2, 3, 2, 0), api.ErrShape}, {sized(1, 3, 2, 0), api.ErrShape}, {sized(1, 1, 0, 0), api.ErrShape}, {sized(2, 3, 4, 0), api.OK}, {sized(1, 3, most, 0), api.OK}, {sized(1, 3, most+1, 0), api.ErrShape}, {sized(2, 1, most, 0), api.ErrShape}, {sized(2, 1, most-1, 0), api.OK}, {sized(2, 1, most-1, 1), api.ErrShape}, {sized(0, 3, 2, 0), api.ErrShape}, {sized(3, 0, -1, 0), api.ErrShape}, {sized(0, 0, -1, 0), api.ErrShape},
		{sized(1, 1, 1, most-1), api.OK}, {sized(1, 1, 1, most), api.ErrShape}, {sized(1, 1, 1, -1), api.ErrShape}, {sized(1, 2, 2, most-2), api.OK}, {sized(1, 2, 2, most-1), api.ErrShape}, {sized(2, 2, 2, most-4), api.OK}, {sized(2, 2, 2, most-3), api.ErrShape},
		// Without a place Off may be behind the last word.
		{sized(0, 0, 0, 0), api.OK}, {sized(0, 0, 0, most), api.OK}, {sized(0, 0, most, most), api.OK}, {sized(0, 0, 0, most+1), api.ErrShape}, {sized(0, 0, most+1, 0), api.ErrShape}, {sized(0, 0, 0, -1), api.ErrShape}, {sized(64, 0, 0, most), api.OK}, {sized(64, 0, most, most), api.OK}, {sized(0, 64, 64, most), api.OK}, {sized(0, 64, most, most), api.OK}, {sized(0, 64, 63, 0), api.ErrShape},
	} {
		holdCheck(t, c.v, most, c.want)
	}
}

// P15.1: the last place is the last word, or is behind it.
func TestCheckWords(t *testing.T) {
	for _, v := range []api.View{sized(1, 1, 1, 0), sized(1, 1, 5, 0), sized(1, 1, 1, 7), sized(2, 2, 2, 0), sized(2, 2, 9, 3), sized(64, 64, 64, 0), sized(64, 64, 100, 11), sized(64, 1, 1, 0), sized(1, 64, 64, 0), sized(3, 1, 4, 2), sized(64, 64, most, most), sized(2, 1, most, most)} {
		last := v.Off + (v.Rows-1)*v.Stride + v.Cols - 1
		holdCheck(t, v, last+1, api.OK)
		holdCheck(t, v, last+2, api.OK)
		holdCheck(t, v, math.MaxInt, api.OK)
		for _, words := range []int{last, last - 1, 1, 0, -1, math.MinInt} {
			if words <= last {
				holdCheck(t, v, words, api.ErrShape)
			}
		}
	}
	// Of a view without a place it is of no matter how many words there are.
	for _, v := range []api.View{{}, sized(0, 3, 3, 5), sized(3, 0, 0, 5), sized(0, 0, 0, most), sized(64, 0, most, most)} {
		for _, words := range []int{0, 1, most, -1, math.MinInt, math.MaxInt} {
			holdCheck(t, v, words, api.OK)
		}
	}
}

// P15.1: the least and the greatest ints, in each field.
func TestCheckFar(t *testing.T) {
	for _, n := range far {
		for _, words := range []int{0, 4, most, math.MaxInt} {
			for _, v := range []api.View{sized(n, 2, 2, 0), sized(2, n, 2, 0), sized(2, n, n, 0), sized(2, 2, n, 0), sized(2, 2, 2, n), sized(n, 0, 0, 0), sized(0, n, n, 0), sized(0, 0, n, 0), sized(0, 0, 0, n), sized(n, n, n, n)} {
				holdCheck(t, v, words, api.ErrShape)
			}
		}
	}
}

func TestWhole(t *testing.T) {
	for _, c := range [][2]int{{1, 1}, {2, 2}, {2, 3}, {3, 2}, {64, 1}, {1, 64}, {64, 64}, {0, 0}, {0, 3}, {-1, 65}, {math.MaxInt, math.MinInt}} {
		for _, data := range [][]uint64{nil, {1, 2, 3, 4}} {
			if got, want := view.Whole(api.Mat{Rows: c[0], Cols: c[1], Data: data}), sized(c[0], c[1], c[1], 0); got != want {
				t.Errorf("P15.1: Whole of %v = %v, want %v", c, got, want)
			}
		}
	}
}

func holdPart(t *testing.T, v api.View, i, j, rows, cols int, want api.View, wantErr api.Errno) {
	t.Helper()
	if got, err := view.Part(v, i, j, rows, cols); got != want || err != wantErr {
		t.Errorf("P15.1: Part(%v, %d, %d, %d, %d) = %v, error %d; want %v, error %d", v, i, j, rows, cols, got, err, want, wantErr)
	}
}

func TestPart(t *testing.T) {
	two := view.Whole(api.Mat{Rows: 2, Cols: 2, Data: []uint64{1, 2, 3, 4}})
	holdPart(t, two, 1, 1, 1, 1, sized(1, 1, 2, 3), api.OK) // the chapter's example
	for _, v := range []api.View{two, sized(3, 4, 4, 0), sized(4, 3, 10, 5), sized(1, 1, 1, most-1), sized(3, 2, 2, most-6), sized(64, 64, 64, 0)} {
		for i := 0; i <= v.Rows; i += max(1, v.Rows/4) {
			for j := 0; j <= v.Cols; j += max(1, v.Cols/4) {
				for _, rows := range []int{0, 1, v.Rows - i, v.Rows - i + 1} {
					for _, cols := range []int{0, 1, v.Cols - j, v.Cols - j + 1} {
						want, wantErr := sized(rows, cols, v.Stride, v.Off+i*v.Stride+j), api.OK
						if rows > v.Rows-i || cols > v.Cols-j {
							want, wantErr = api.View{}, api.ErrRange
						}
						holdPart(t, v, i, j, rows, cols, want, wantErr)
					}
				}
			}
		}
	}
}

// P15.1: one beyond each side, sides and places below 0, ints far off.
func TestPartBeyond(t *testing.T) {
	v := sized(4, 3, 7, 2)
	holdPart(t, v, 0, 0, 4, 3, sized(4, 3, 7, 2), api.OK)
	for _, n := range append([]int{5}, far...) {
		holdPart(t, v, n, 0, 0, 0, api.View{}, api.ErrRange)
		holdPart(t, v, n, 0, 1, 1, api.View{}, api.ErrRange)
		holdPart(t, v, 0, n, 0, 0, api.View{}, api.ErrRange)
		holdPart(t, v, 0, n, 1, 1, api.View{}, api.ErrRange)
		holdPart(t, v, 0, 0, n, 1, api.View{}, api.ErrRange)
		holdPart(t, v, 0, 0, 1, n, api.View{}, api.ErrRange)
		holdPart(t, v, 4, 0, n, 0, api.View{}, api.ErrRange)
		holdPart(t, v, 0, 3, 0, n, api.View{}, api.ErrRange)
		holdPart(t, v, 1, 1, n, n, api.View{}, api.ErrRange)
		holdPart(t, v, n, n, n, n, api.View{}, api.ErrRange)
	}
	// Together they are in the view, but one of them is below 0.
	holdPart(t, v, -1, 0, 2, 1, api.View{}, api.ErrRange)
	holdPart(t, v, 0, -1, 1, 2, api.View{}, api.ErrRange)
	holdPart(t, v, 2, 0, -1, 1, api.View{}, api.ErrRange)
	holdPart(t, v, 0, 2, 1, -1, api.View{}, api.ErrRange)
	// Together they are below 0 again.
	holdPart(t, v, 1, 0, math.MaxInt, 1, api.View{}, api.ErrRange)
	holdPart(t, v, 0, 1, 1, math.MaxInt, api.View{}, api.ErrRange)
	holdPart(t, v, math.MaxInt, 0, 1, 1, api.View{}, api.ErrRange)
	holdPart(t, v, 5, 0, -1, 1, api.View{}, api.ErrRange)
	holdPart(t, v, 0, 4, 1, -1, api.View{}, api.ErrRange)
}

// P15.1: a view that may not be of 2^20 words goes ahead of the places.
func TestPartOfNone(t *testing.T) {
	for _, v := range []api.View{sized(-1, 1, 1, 0), sized(65, 1, 1, 0), sized(1, 65, 65, 0), sized(2, 3, 2, 0), sized(1, 1, most+1, 0), sized(1, 1, 1, most), sized(1, 1, 1, -1), sized(2, 1, most, 0), sized(0, 0, 0, most+1)} {
		holdPart(t, v, 0, 0, 0, 0, api.View{}, api.ErrShape)
		holdPart(t, v, 0, 0, 1, 1, api.View{}, api.ErrShape)
		holdPart(t, v, -1, -1, -1, -1, api.View{}, api.ErrShape)
	}
}

// P15.1: Off above 2^20, of a part without a place.
func TestPartBehindAll(t *testing.T) {
	wide := sized(64, 0, most, most)
	holdPart(t, wide, 64, 0, 0, 0, sized(0, 0, most, 65*most), api.OK)
	holdPart(t, wide, 1, 0, 63, 0, sized(63, 0, most, 2*most), api.OK)
	holdPart(t, wide, 1, 0, 64, 0, api.View{}, api.ErrRange)
	holdPart(t, sized(0, 64, 64, most), 0, 64, 0, 0, sized(0, 0, 64, most+64), api.OK)
	holdPart(t, sized(2, 2, 2, most-4), 2, 2, 0, 0, sized(0, 0, 2, most+2), api.OK)
	// Such a one may not be a view itself.
	holdPart(t, sized(0, 0, most, 2*most), 0, 0, 0, 0, api.View{}, api.ErrShape)
}

// P15.2: a part of a part is the part at both places together.
func TestPartOfPart(t *testing.T) {
	whole := sized(5, 6, 9, 4)
	w := counted(80)
	for i := range 4 {
		for j := range 4 {
			outer, err := view.Part(whole, i, j, 5-i, 6-j)
			if err != api.OK {
				t.Fatalf("P15.2: Part at %d, %d: error %d", i, j, err)
			}
			for k := range 5 - i {
				for l := range 6 - j {
					inner, err := view.Part(outer, k, l, 5-i-k, 1)
					holdPart(t, whole, i+k, j+l, 5-i-k, 1, inner, err)
					if got, want := view.Get(w, inner, 0, 0), view.Get(w, whole, i+k, j+l); got != want || err != api.OK {
						t.Errorf("P15.2: Part at %d, %d of Part at %d, %d has the word %d, want %d", k, l, i, j, got, want)
					}
				}
			}
		}
	}
}

func holdGet(t *testing.T, w []uint64, v api.View, i, j int, want uint64) {
	t.Helper()
	if got := view.Get(w, v, i, j); got != want {
		t.Errorf("P15.1: Get of %d words, %v at %d, %d = %#x, want %#x", len(w), v, i, j, got, want)
	}
}

func TestGet(t *testing.T) {
	for _, v := range []api.View{sized(1, 1, 1, 0), sized(2, 3, 3, 0), sized(3, 2, 7, 5), sized(64, 1, 3, 2), sized(64, 64, 64, 1)} {
		last := v.Off + (v.Rows-1)*v.Stride + v.Cols - 1
		w := counted(last + 2)
		for i := range v.Rows {
			for j := range v.Cols {
				holdGet(t, w, v, i, j, w[v.Off+i*v.Stride+j])
				holdGet(t, w[:last+1], v, i, j, w[v.Off+i*v.Stride+j])
				holdGet(t, w[:last], v, i, j, 0) // the view may not be of these
			}
		}
		for _, n := range append([]int{64, 65}, far...) {
			if n >= 0 && n < max(v.Rows, v.Cols) {
				continue
			}
			holdGet(t, w, v, n, 0, 0)
			holdGet(t, w, v, 0, n, 0)
			holdGet(t, w, v, n, n, 0)
		}
		holdGet(t, w, v, v.Rows, 0, 0)
		holdGet(t, w, v, 0, v.Cols, 0)
		holdGet(t, w, v, v.Rows, v.Cols, 0)
		holdGet(t, nil, v, 0, 0, 0)
	}
	// Words between the rows, ahead and behind are no places of the view.
	w, v := counted(40), sized(3, 2, 5, 10)
	holdGet(t, w, v, 0, 2, 0)
	holdGet(t, w, v, 0, -1, 0)
	holdGet(t, w, v, 1, -3, 0)
	holdGet(t, w, v, -1, 5, 0)
	holdGet(t, w, v, 3, 0, 0)
}

// P15.1: 0 of views without a place, and of those that may not be.
func TestGetOfNone(t *testing.T) {
	w := slices.Repeat([]uint64{7}, 100)
	for _, v := range []api.View{{}, sized(0, 3, 3, 0), sized(3, 0, 3, 0), sized(2, 3, 2, 0), sized(65, 1, 1, 0), sized(1, 65, 65, 0), sized(2, 2, 2, -1), sized(-2, -2, 2, 5), sized(1, 1, most+1, 0), sized(1, 1, 1, 100), sized(2, 2, -2, 50), sized(math.MinInt, math.MaxInt, math.MaxInt, 0)} {
		holdGet(t, w, v, 0, 0, 0)
		holdGet(t, w, v, 1, 1, 0)
		holdGet(t, w, v, -1, -1, 0)
	}
}

func holdCopy(t *testing.T, w []uint64, v api.View, want api.Mat, wantErr api.Errno) {
	t.Helper()
	got, err := view.Copy(w, v)
	if got.Rows != want.Rows || got.Cols != want.Cols || !slices.Equal(got.Data, want.Data) || err != wantErr {
		t.Errorf("P15.1: Copy of %d words, %v = %v, error %d; want %v, error %d", len(w), v, got, err, want, wantErr)
	}
}

func TestCopy(t *testing.T) {
	for _, v := range []api.View{sized(1, 1, 1, 0), sized(2, 3, 3, 0), sized(3, 2, 7, 5), sized(64, 1, 3, 2), sized(1, 64, 64, 3), sized(64, 64, 65, 1), sized(2, 1, most, 0)} {
		l := numbers(v)
		last := l[len(l)-1]
		w := counted(last + 2)
		want := api.Mat{Rows: v.Rows, Cols: v.Cols}
		for _, n := range l {
			want.Data = append(want.Data, w[n])
		}
		holdCopy(t, w, v, want, api.OK)
		holdCopy(t, w[:last+1], v, want, api.OK)
		holdCopy(t, w[:last], v, api.Mat{}, api.ErrShape)
		holdCopy(t, nil, v, api.Mat{}, api.ErrShape)
	}
	holdCopy(t, []uint64{10, 11, 12, 13, 14, 15}, sized(2, 2, 3, 1), api.Mat{Rows: 2, Cols: 2, Data: []uint64{11, 12, 14, 15}}, api.OK)
	for _, v := range []api.View{{}, sized(0, 3, 3, 0), sized(3, 0, 3, 0), sized(64, 0, 0, most), sized(-1, 1, 1, 0), sized(65, 1, 1, 0), sized(2, 3, 2, 0), sized(1, 1, 1, -1), sized(1, 1, most+1, 0), sized(math.MaxInt, math.MaxInt, math.MaxInt, math.MaxInt)} {
		holdCopy(t, counted(100), v, api.Mat{}, api.ErrShape)
		holdCopy(t, nil, v, api.Mat{}, api.ErrShape)
	}
}

func holdApart(t *testing.T, a, b api.View, want bool) {
	t.Helper()
	if view.Apart(a, b) != want || view.Apart(b, a) != want {
		t.Errorf("P15.1: Apart(%v, %v) is not %v", a, b, want)
	}
}

func TestApart(t *testing.T) {
	a := sized(3, 2, 6, 10) // 10 11, 16 17, 22 23
	holdApart(t, a, a, false)
	// Ahead, behind, and with one place in common at either end.
	holdApart(t, a, sized(1, 10, 10, 0), true)
	holdApart(t, a, sized(1, 11, 11, 0), false)
	holdApart(t, a, sized(1, 5, 5, 24), true)
	holdApart(t, a, sized(1, 5, 5, 23), false)
	// Between each other's rows.
	holdApart(t, a, sized(3, 2, 6, 12), true)
	holdApart(t, a, sized(3, 4, 6, 12), true)
	holdApart(t, a, sized(3, 5, 6, 12), false)
	holdApart(t, a, sized(3, 2, 6, 8), true)
	holdApart(t, a, sized(3, 2, 6, 9), false)
	holdApart(t, a, sized(3, 2, 6, 11), false)
	holdApart(t, a, sized(2, 1, 5, 12), false)
	holdApart(t, a, sized(2, 1, 3, 12), true)
	// Without a place, and such as may not be: nothing is in common.
	for _, b := range []api.View{{}, sized(0, 64, 64, 10), sized(3, 0, 6, 10), sized(-3, 2, 6, 10), sized(3, 2, 1, 10), sized(65, 1, 1, 0), sized(1, 65, 65, 0), sized(2, 1, most, 10), sized(1, 1, 1, most), sized(64, 64, math.MaxInt, 0)} {
		holdApart(t, a, b, true)
		holdApart(t, b, b, true)
	}
	holdApart(t, sized(1, 1, 1, most-1), sized(1, 2, 2, most-2), false)
	holdApart(t, sized(64, 64, 64, 0), sized(64, 64, 64, 4096), true)
	holdApart(t, sized(64, 64, 64, 0), sized(64, 64, 64, 4095), false)
}

// P15.1: of all small views, as their places say.
func TestApartAsPlaces(t *testing.T) {
	var all []api.View
	for rows := range 4 {
		for cols := range 3 {
			for stride := cols; stride < 4; stride++ {
				for off := range 5 {
					all = append(all, sized(rows, cols, stride, off))
				}
			}
		}
	}
	for _, a := range all {
		la := numbers(a)
		for _, b := range all {
			common := slices.ContainsFunc(numbers(b), func(n int) bool { return slices.Contains(la, n) })
			if view.Apart(a, b) == common {
				t.Fatalf("P15.1: Apart(%v, %v) is %v", a, b, common)
			}
		}
	}
}

func TestPlaces(t *testing.T) {
	if got := view.Places(sized(3, 2, 5, 7)); !slices.Equal(got, []int{7, 8, 12, 13, 17, 18}) {
		t.Errorf("P15.1: Places of 3 by 2 = %v", got)
	}
	for _, rows := range []int{-1, 0, 1, 2, 63, 64, 65} {
		for _, cols := range []int{-1, 0, 1, 2, 63, 64, 65} {
			for _, stride := range []int{cols - 1, cols, cols + 1, 100, most - 1, most, most + 1} {
				for _, off := range []int{-1, 0, 1, most - 1, most, most + 1} {
					v := sized(rows, cols, stride, off)
					var want []int
					if mayBe(v, most) {
						want = numbers(v)
					}
					if got := view.Places(v); !slices.Equal(got, want) {
						t.Fatalf("P15.1: Places(%v) are %d, from %v on; want %d", v, len(got), got[:min(len(got), 3)], len(want))
					}
				}
			}
		}
	}
}

// P15.3: what is handed in isn't changed, and shares nothing with what is told.
func TestMemory(t *testing.T) {
	holdMemory(t, "Copy", func(in [][]uint64) []uint64 {
		a, _ := view.Copy(in[0], sized(2, 3, 4, 1))
		return a.Data
	}, counted(20))
	holdMemory(t, "Copy of all", func(in [][]uint64) []uint64 {
		a, _ := view.Copy(in[0], sized(4, 5, 5, 0))
		return a.Data
	}, counted(20))
	holdMemory(t, "Places", func([][]int) []int { return view.Places(sized(2, 3, 4, 1)) })
	w := counted(20)
	view.Get(w, sized(2, 3, 4, 1), 1, 1)
	view.Whole(api.Mat{Rows: 4, Cols: 5, Data: w})
	if !slices.Equal(w, counted(20)) {
		t.Error("P15.3: a call that only looks changes the words")
	}
}
