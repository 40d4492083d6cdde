package morton_test

import (
	"math"
	"slices"
	"testing"

	"vernier/api"
	"vernier/morton"
)

func holdSides(t *testing.T, rows, cols, tile, side int, wantErr api.Errno) {
	t.Helper()
	if got, err := morton.Side(rows, cols, tile); got != side || err != wantErr {
		t.Errorf("P16.1: Side(%d, %d, %d) = %d, error %d; want %d, error %d", rows, cols, tile, got, err, side, wantErr)
	}
	size := side * side * tile * tile
	if got, err := morton.Size(rows, cols, tile); got != size || err != wantErr {
		t.Errorf("P16.1: Size(%d, %d, %d) = %d, error %d; want %d, error %d", rows, cols, tile, got, err, size, wantErr)
	}
}

func TestSides(t *testing.T) {
	for _, c := range [][4]int{
		{1, 1, 1, 1}, {1, 1, 8, 1}, {2, 2, 1, 2}, {3, 3, 1, 4}, {4, 4, 1, 4}, {5, 1, 1, 8}, {1, 5, 1, 8}, {64, 64, 1, 64}, {64, 1, 1, 64}, {1, 64, 1, 64}, {63, 1, 1, 64}, {33, 33, 1, 64}, {32, 32, 1, 32}, {64, 64, 8, 8}, {63, 63, 8, 8}, {57, 1, 8, 8}, {33, 1, 8, 8}, {32, 1, 8, 4}, {1, 33, 8, 8}, {8, 8, 8, 1}, {9, 8, 8, 2}, {8, 9, 8, 2}, {7, 8, 8, 1}, {16, 16, 8, 2}, {17, 16, 8, 4}, {15, 16, 8, 2}, {64, 64, 3, 32}, {48, 48, 3, 16}, {49, 1, 3, 32}, {47, 2, 3, 16}, {3, 3, 3, 1}, {4, 3, 3, 2}, {6, 2, 3, 2}, {7, 2, 3, 4}, {64, 64, 7, 16}, {64, 64, 5, 16}, {64, 64, 6, 16},
	} {
		holdSides(t, c[0], c[1], c[2], c[3], api.OK)
	}
	for rows := -1; rows <= 66; rows++ {
		for cols := -1; cols <= 66; cols++ {
			for tile := -1; tile <= 10; tile++ {
				if mayBe(rows, cols, tile) {
					holdSides(t, rows, cols, tile, sideOf(rows, cols, tile), api.OK)
				} else {
					holdSides(t, rows, cols, tile, 0, api.ErrShape)
				}
			}
		}
	}
	for _, n := range far {
		holdSides(t, n, 1, 1, 0, api.ErrShape)
		holdSides(t, 1, n, 1, 0, api.ErrShape)
		holdSides(t, 1, 1, n, 0, api.ErrShape)
		holdSides(t, n, n, n, 0, api.ErrShape)
	}
}

func holdInterleave(t *testing.T, i, j, want int) {
	t.Helper()
	if got := morton.Interleave(i, j); got != want {
		t.Errorf("P16.1: Interleave(%#x, %#x) = %#x, want %#x", i, j, got, want)
	}
}

func holdApart(t *testing.T, z, i, j int) {
	t.Helper()
	if gotI, gotJ := morton.Apart(z); gotI != i || gotJ != j {
		t.Errorf("P16.1: Apart(%#x) = %#x, %#x; want %#x, %#x", z, gotI, gotJ, i, j)
	}
}

func TestInterleave(t *testing.T) {
	holdInterleave(t, 1, 1, 3) // the chapter's example
	for _, c := range [][3]int{
		{0, 0, 0}, {0, 1, 1}, {1, 0, 2}, {0, 2, 4}, {2, 0, 8}, {3, 0, 10}, {0, 3, 5}, {2, 1, 9}, {1, 2, 6}, {0x8000, 0, 1 << 31}, {0, 0x8000, 1 << 30}, {0xffff, 0, 0xaaaaaaaa}, {0, 0xffff, 0x55555555}, {0xffff, 0xffff, 0xffffffff}, {0x00ff, 0, 0xaaaa}, {0, 0xff00, 0x55550000},
	} {
		holdInterleave(t, c[0], c[1], c[2])
		holdApart(t, c[2], c[0], c[1])
	}
	s := source(1)
	for range 2000 {
		i, j := int(s.next()&0xffff), int(s.next()&0xffff)
		z := order(i, j, 16)
		holdInterleave(t, i, j, z)
		holdApart(t, z, i, j)
	}
}

// P16.1: bits above the lowest 16, and 32, are of no matter; so are ints below 0.
func TestBitsAbove(t *testing.T) {
	for _, n := range []int{1 << 16, 1 << 17, 1 << 31, 1 << 32, 1 << 62, math.MinInt, math.MinInt | 1<<40} {
		holdInterleave(t, n, 0, 0)
		holdInterleave(t, 0, n, 0)
		holdInterleave(t, n|2, n|1, 9)
	}
	holdInterleave(t, -1, 0, 0xaaaaaaaa)
	holdInterleave(t, 0, -1, 0x55555555)
	holdInterleave(t, -1, -1, 0xffffffff)
	holdInterleave(t, -2, -65536, 0xaaaaaaa8)
	holdInterleave(t, math.MaxInt, math.MinInt, 0xaaaaaaaa)
	for _, n := range []int{1 << 32, 1 << 33, 1 << 62, math.MinInt, math.MinInt | 3<<40} {
		holdApart(t, n, 0, 0)
		holdApart(t, n|9, 2, 1)
		holdApart(t, n|0xffffffff, 0xffff, 0xffff)
	}
	holdApart(t, -1, 0xffff, 0xffff)
	holdApart(t, -2, 0xffff, 0xfffe)
	holdApart(t, math.MaxInt, 0xffff, 0xffff)
}

func holdIndex(t *testing.T, i, j, tile, want int) {
	t.Helper()
	if got := morton.Index(i, j, tile); got != want {
		t.Errorf("P16.1: Index(%d, %d, %d) = %d, want %d", i, j, tile, got, want)
	}
}

func TestIndex(t *testing.T) {
	const end = 1<<16 - 1
	for _, c := range [][4]int{
		{0, 0, 1, 0}, {0, 1, 1, 1}, {1, 0, 1, 2}, {1, 1, 1, 3}, {0, 2, 1, 4}, {0, 1, 2, 1}, {1, 0, 2, 2}, {1, 1, 2, 3}, {0, 2, 2, 4}, {2, 0, 2, 8}, {2, 3, 2, 13}, {3, 2, 2, 14}, {0, 4, 2, 16}, {2, 2, 3, 8}, {3, 0, 3, 18}, {0, 3, 3, 9}, {4, 5, 3, 32}, {7, 7, 8, 63}, {8, 0, 8, 128}, {0, 8, 8, 64}, {end, end, 1, 1<<32 - 1}, {end, end, 8, 1<<32 - 1}, {end, 0, 1, 0xaaaaaaaa}, {0, end, 1, 0x55555555}, {end, end, 2, 1<<32 - 1},
	} {
		holdIndex(t, c[0], c[1], c[2], c[3])
	}
	for tile := 1; tile <= 8; tile++ {
		for i := range 66 {
			for j := range 66 {
				holdIndex(t, i, j, tile, place(i, j, tile))
			}
		}
		for _, i := range []int{0, 1, 255, 256, 1000, end - 1, end} {
			for _, j := range []int{0, 1, 255, 256, 1000, end - 1, end} {
				holdIndex(t, i, j, tile, place(i, j, tile))
			}
		}
	}
}

// P16.1: -1 of places and tiles that may not be.
func TestIndexOfNone(t *testing.T) {
	for tile := 1; tile <= 8; tile++ {
		for _, n := range append([]int{1 << 16, 1<<16 + 1, 1 << 17}, far...) {
			holdIndex(t, n, 0, tile, -1)
			holdIndex(t, 0, n, tile, -1)
			holdIndex(t, n, n, tile, -1)
		}
	}
	for _, tile := range append([]int{0, 9, 10, 16}, far...) {
		holdIndex(t, 0, 0, tile, -1)
		holdIndex(t, 5, 3, tile, -1)
		holdIndex(t, -1, -1, tile, -1)
	}
}

// layout is what a's layout has to be.
func layout(a api.Mat, tile int) []uint64 {
	side := sideOf(a.Rows, a.Cols, tile)
	out := make([]uint64, side*side*tile*tile)
	for i := range a.Rows {
		for j := range a.Cols {
			out[place(i, j, tile)] = a.Data[i*a.Cols+j]
		}
	}
	return out
}

func holdTo(t *testing.T, a api.Mat, tile int, want []uint64, wantErr api.Errno) {
	t.Helper()
	if got, err := morton.To(a, tile); !slices.Equal(got, want) || err != wantErr {
		t.Errorf("P16.1: To of %d by %d with %d words, tile %d = %d words, error %d; want %d, error %d", a.Rows, a.Cols, len(a.Data), tile, len(got), err, len(want), wantErr)
	}
}

func holdFrom(t *testing.T, w []uint64, rows, cols, tile int, want api.Mat, wantErr api.Errno) {
	t.Helper()
	got, err := morton.From(w, rows, cols, tile)
	if got.Rows != want.Rows || got.Cols != want.Cols || !slices.Equal(got.Data, want.Data) || err != wantErr {
		t.Errorf("P16.1, P16.2: From of %d words, %d by %d, tile %d = %d by %d with %d words, error %d; want error %d, or other words", len(w), rows, cols, tile, got.Rows, got.Cols, len(got.Data), err, wantErr)
	}
}

func TestToAndFrom(t *testing.T) {
	holdTo(t, mat(2, 2, 1, 2, 3, 4), 1, []uint64{1, 2, 3, 4}, api.OK)
	holdTo(t, mat(2, 3, 1, 2, 3, 4, 5, 6), 1, []uint64{1, 2, 4, 5, 3, 0, 6, 0, 0, 0, 0, 0, 0, 0, 0, 0}, api.OK)
	holdTo(t, mat(2, 3, 1, 2, 3, 4, 5, 6), 2, []uint64{1, 2, 4, 5, 3, 0, 6, 0, 0, 0, 0, 0, 0, 0, 0, 0}, api.OK)
	holdTo(t, mat(2, 3, 1, 2, 3, 4, 5, 6), 3, []uint64{1, 2, 3, 4, 5, 6, 0, 0, 0}, api.OK)
	holdTo(t, mat(3, 1, 1, 2, 3), 2, []uint64{1, 0, 2, 0, 0, 0, 0, 0, 3, 0, 0, 0, 0, 0, 0, 0}, api.OK)
	s := source(2)
	for _, side := range [][2]int{{1, 1}, {1, 2}, {2, 1}, {3, 3}, {4, 5}, {7, 8}, {8, 8}, {8, 9}, {9, 8}, {16, 16}, {17, 3}, {3, 17}, {24, 25}, {1, 64}, {64, 1}, {63, 64}, {64, 63}, {64, 64}} {
		for tile := 1; tile <= 8; tile++ {
			a := mat(side[0], side[1], s.words(side[0]*side[1])...)
			want := layout(a, tile)
			holdTo(t, a, tile, want, api.OK)
			holdFrom(t, want, side[0], side[1], tile, a, api.OK)
			// There and back, and with other words where no place is.
			w, _ := morton.To(a, tile)
			holdFrom(t, w, side[0], side[1], tile, a, api.OK)
			filled := slices.Repeat([]uint64{api.NaN}, len(want))
			for i := range a.Rows {
				for j := range a.Cols {
					filled[place(i, j, tile)] = a.Data[i*a.Cols+j]
				}
			}
			holdFrom(t, filled, side[0], side[1], tile, a, api.OK)
			// One word fewer, one more, none.
			holdFrom(t, want[1:], side[0], side[1], tile, api.Mat{}, api.ErrLong)
			holdFrom(t, append(want, 0), side[0], side[1], tile, api.Mat{}, api.ErrLong)
			holdFrom(t, nil, side[0], side[1], tile, api.Mat{}, api.ErrLong)
			holdFrom(t, []uint64{}, side[0], side[1], tile, api.Mat{}, api.ErrLong)
		}
	}
}

// P16.1: sides and tiles that may not be; they go ahead of how many words there
// are.
func TestToAndFromNone(t *testing.T) {
	good := mat(2, 2, 1, 2, 3, 4)
	for _, tile := range append([]int{0, 9}, far...) {
		holdTo(t, good, tile, nil, api.ErrShape)
		holdFrom(t, []uint64{1, 2, 3, 4}, 2, 2, tile, api.Mat{}, api.ErrShape)
		holdFrom(t, nil, 2, 2, tile, api.Mat{}, api.ErrShape)
	}
	for _, n := range append([]int{0, 65}, far...) {
		holdTo(t, mat(n, 1, 1), 1, nil, api.ErrShape)
		holdTo(t, mat(1, n, 1), 1, nil, api.ErrShape)
		holdFrom(t, []uint64{1}, n, 1, 1, api.Mat{}, api.ErrShape)
		holdFrom(t, []uint64{1}, 1, n, 1, api.Mat{}, api.ErrShape)
		holdFrom(t, nil, n, n, 1, api.Mat{}, api.ErrShape)
	}
	holdFrom(t, make([]uint64, 128*128), 65, 1, 1, api.Mat{}, api.ErrShape)
	for _, a := range []api.Mat{{}, mat(1, 1), mat(2, 2, 1, 2, 3), mat(2, 2, 1, 2, 3, 4, 5), mat(-1, -1, 1), mat(65, 1, make([]uint64, 65)...), mat(1, 65, make([]uint64, 65)...)} {
		for _, tile := range []int{-1, 0, 1, 8, 9} {
			holdTo(t, a, tile, nil, api.ErrShape)
		}
	}
}

// P16.3: what is handed in isn't changed, and shares nothing with what is told.
func TestMemory(t *testing.T) {
	s := source(3)
	for _, tile := range []int{1, 2, 3, 8} {
		for _, side := range [][2]int{{1, 1}, {2, 2}, {8, 8}, {3, 5}} {
			a := s.words(side[0] * side[1])
			holdMemory(t, "To", func(in [][]uint64) []uint64 {
				w, _ := morton.To(mat(side[0], side[1], in[0]...), tile)
				return w
			}, a)
			holdMemory(t, "From", func(in [][]uint64) []uint64 {
				got, _ := morton.From(in[0], side[0], side[1], tile)
				return got.Data
			}, layout(mat(side[0], side[1], a...), tile))
		}
	}
}
