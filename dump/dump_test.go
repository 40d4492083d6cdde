package dump_test

import (
	"fmt"
	"math"
	"math/big"
	"slices"
	"strings"
	"testing"

	"vernier/api"
	"vernier/dump"
)

const (
	sign  = uint64(1) << 63
	one   = uint64(0x3ff0000000000000)
	great = uint64(0x7fefffffffffffff)
	inf   = uint64(0x7ff0000000000000)
)

// lost are NaNs of any fraction, both signs.
var lost = []uint64{inf + 1, api.NaN, api.NaN + 1, 1<<63 - 1, sign | inf + 1, sign | api.NaN, 1<<64 - 1}

// source is a rule of numbers that look mixed, the same in every run.
type source uint64

func (s *source) next() uint64 {
	*s += 0x9e3779b97f4a7c15
	z := uint64(*s)
	z = (z ^ z>>30) * 0xbf58476d1ce4e5b9
	z = (z ^ z>>27) * 0x94d049bb133111eb
	return z ^ z>>31
}

// textOf is a number's text, by the chapter's words.
func textOf(a uint64) string {
	out := ""
	if a&sign != 0 {
		out = "-"
	}
	switch size := a &^ sign; {
	case size > inf:
		return "nan"
	case size == inf:
		return out + "inf"
	case size == 0:
		return out + "0"
	}
	e, m := int(a>>52&2047), a&(1<<52-1)
	if e > 0 {
		m |= 1 << 52
	} else {
		e = 1
	}
	x := e - 1075
	for m%2 == 0 {
		m, x = m/2, x+1
	}
	return fmt.Sprintf("%s%xp%d", out, m, x)
}

// hold holds the text of a number, and that it comes back.
func hold(t *testing.T, a uint64, want string) {
	t.Helper()
	if got := dump.Number(a); got != want {
		t.Errorf("P40.1: Number(%#x) = %q, want %q", a, got, want)
	}
	back := a
	if a&^sign > inf {
		back = api.NaN
	}
	if got, err := dump.Parse(want); got != back || err != api.OK {
		t.Errorf("P40.2: Parse(%q) = %#x, error %d; want %#x", want, got, err, back)
	}
}

func TestNumber(t *testing.T) {
	for x, want := range map[float64]string{1: "1p0", 2: "1p1", 3: "3p0", 0.5: "1p-1", -1: "-1p0", 6: "3p1", -10: "-5p1", 255: "ffp0", 0xabcdef: "abcdefp0", 0x1234568: "2468adp3", 0.75: "3p-2", 1 << 60: "1p60"} {
		hold(t, math.Float64bits(x), want)
	}
	for _, a := range lost {
		hold(t, a, "nan")
	}
	for a, want := range map[uint64]string{0: "0", sign: "-0", inf: "inf", sign | inf: "-inf", 1: "1p-1074", sign | 1: "-1p-1074", 3: "3p-1074", 1<<52 - 1: "fffffffffffffp-1074", 1 << 52: "1p-1022", 1<<52 + 1: "10000000000001p-1074", great: "1fffffffffffffp971", sign | great: "-1fffffffffffffp971"} {
		hold(t, a, want)
	}
	for e := range uint64(2048) { // the least and the greatest of each e
		for _, f := range []uint64{0, 1, 1<<52 - 1, 1 << 51} {
			for _, s := range []uint64{0, sign} {
				hold(t, s|e<<52|f, textOf(s|e<<52|f))
			}
		}
	}
	s := source(1)
	for range 10000 {
		a := s.next()
		hold(t, a, textOf(a))
		a = a &^ (1<<(a%53) - 1)
		hold(t, a, textOf(a))
		// The text tells just that number.
		if a&^sign >= inf || a&^sign == 0 {
			continue
		}
		text := strings.TrimPrefix(dump.Number(a), "-")
		m, x, _ := strings.Cut(text, "p")
		want := new(big.Float).SetFloat64(math.Abs(math.Float64frombits(a)))
		if got, _, err := big.ParseFloat("0x"+m+"p"+x, 0, 53, big.ToZero); err != nil || got.Cmp(want) != 0 {
			t.Errorf("P40.1: Number(%#x) = %q", a, text)
		}
	}
}

// P40.1: texts that are no number's.
func TestParseErrors(t *testing.T) {
	for _, s := range []string{
		"", "-", "--1p0", "-nan", "+nan", "NaN", "Nan", "nan ", " nan", "nanp0", "Inf", "INF", "+inf", "infinity", "--inf", "inf0", "00", "+0", "-00", "0p0", "-0p0", "0p1", "0x0", "000",
		"1", "3", "-1", "p", "1p", "p0", "p1", "-p0", "1p-", "1p+", "1p+0", "1p+1", "+1p0", "1p-0", "1p00", "1p01", "1p-01", "1p0 ", " 1p0", "1 p0", "1p 0", "1p0\n", "\t1p0", "1p0p0", "1pp0", "1p0x0", "1P0", "0x1p0", "1p0.", "1.0p0", "1.p0", "1_0p0", "1p1_0", "1e0",
		"01p0", "001p0", "2p0", "4p0", "10p0", "ap0", "cp0", "fep0", "10000000000000p0", "Ap0", "Bp0", "FFp0", "aBp0", "gp0", "1gp0", "-2p1", "-03p0",
		"20000000000001p0", "3fffffffffffffp0", "1fffffffffffff1p0", "10000000000001000000000000000000p0", "100000000000000001p0", "ffffffffffffffffp0", "1ffffffffffffffffp0", "1p1024", "1p1025", "3p1023", "1fffffffffffffp972", "-1p1024", "1p-1075", "3p-1075", "-1p-1075", "1fffffffffffffp-1075", "1p-1074.0", "1p16384", "1p-16384", "1p16385", "1p99999", "1p-99999", "1p99999999999999999999", "1p-99999999999999999999", "1p9223372036854775807", "1p-9223372036854775808",
		"1p0 1p0", "1p\x000", "\x001p0", "1p0\x00", "é", "\xff", "１p0", "1p０", "−1p0",
	} {
		if got, err := dump.Parse(s); got != 0 || err != api.ErrSyntax {
			t.Errorf("P40.1: Parse(%q) = %#x, error %d", s, got, err)
		}
	}
	// One octet more or fewer, or another one, tells another number or none.
	s := source(2)
	for range 3000 {
		a := s.next()
		text := []byte(textOf(a))
		at := int(s.next() % uint64(len(text)))
		switch s.next() % 3 {
		case 0:
			text = slices.Delete(text, at, at+1)
		case 1:
			text = slices.Insert(text, at, "0123456789abcdefp-+. "[s.next()%21])
		case 2:
			text[at] = "0123456789abcdefp-+. "[s.next()%21]
		}
		got, err := dump.Parse(string(text))
		if err == api.OK && textOf(got) != string(text) || err != api.OK && (got != 0 || err != api.ErrSyntax) {
			t.Errorf("P40.1: Parse(%q) = %#x, error %d", text, got, err)
		}
	}
	for _, long := range []string{strings.Repeat("1", 1<<20) + "p0", "1p" + strings.Repeat("1", 1<<20), strings.Repeat("0", 1<<20), strings.Repeat("-", 1<<20)} {
		if got, err := dump.Parse(long); got != 0 || err != api.ErrSyntax {
			t.Errorf("P40.1: Parse of %d octets = %#x, error %d", len(long), got, err)
		}
	}
}

// mat is a matrix, just as it comes.
func mat(rows, cols int, l ...uint64) api.Mat { return api.Mat{Rows: rows, Cols: cols, Data: l} }

// filled is a matrix of one number.
func filled(rows, cols int, a uint64) api.Mat {
	return mat(rows, cols, slices.Repeat([]uint64{a}, rows*cols)...)
}

func sameMat(a, b api.Mat) bool {
	return a.Rows == b.Rows && a.Cols == b.Cols && slices.Equal(a.Data, b.Data)
}

// holdMatrix holds the text of a matrix, and that it comes back.
func holdMatrix(t *testing.T, a api.Mat, want string) {
	t.Helper()
	if got, err := dump.Matrix(a); got != want || err != api.OK {
		t.Errorf("P40.1: Matrix of %d by %d = %q, error %d; want %q", a.Rows, a.Cols, got, err, want)
	}
	back := mat(a.Rows, a.Cols)
	for _, word := range a.Data {
		if word&^sign > inf {
			word = api.NaN
		}
		back.Data = append(back.Data, word)
	}
	if got, err := dump.Read(want); !sameMat(got, back) || err != api.OK {
		t.Errorf("P40.2: Read(%q) = %v, error %d; want %v", want, got, err, back)
	}
}

// linesOf is a matrix's text, by the chapter's words.
func linesOf(a api.Mat) string {
	out := ""
	for row := range slices.Chunk(a.Data, a.Cols) {
		var numbers []string
		for _, word := range row {
			numbers = append(numbers, textOf(word))
		}
		out += strings.Join(numbers, " ") + "\n"
	}
	return out
}

func TestMatrix(t *testing.T) {
	holdMatrix(t, mat(1, 1, one), "1p0\n")
	holdMatrix(t, mat(1, 3, one, sign, inf), "1p0 -0 inf\n")
	holdMatrix(t, mat(3, 1, one, sign|one, api.NaN+5), "1p0\n-1p0\nnan\n")
	holdMatrix(t, mat(2, 2, 0, sign|inf, 1, sign|1), "0 -inf\n1p-1074 -1p-1074\n")
	s := source(3)
	for _, x := range [][2]int{{1, 1}, {1, 2}, {2, 1}, {3, 5}, {5, 3}, {1, 64}, {64, 1}, {30, 30}, {64, 40}, {40, 64}} {
		a := mat(x[0], x[1])
		for range x[0] * x[1] {
			a.Data = append(a.Data, append(slices.Clone(lost), s.next(), s.next(), s.next(), 0, sign, one, inf, 3<<51)[s.next()%15])
		}
		holdMatrix(t, a, linesOf(a))
	}
	for _, a := range []api.Mat{filled(64, 64, one), filled(64, 64, 0), filled(64, 64, api.NaN), filled(64, 64, sign|inf)} {
		holdMatrix(t, a, linesOf(a))
	}
}

// P40.1: matrices that may not be; texts above MaxText octets, and just so long.
func TestMatrixErrors(t *testing.T) {
	hold := func(a api.Mat, want api.Errno) {
		t.Helper()
		if got, err := dump.Matrix(a); got != "" || err != want {
			t.Errorf("P40.1: Matrix of %d by %d, %d words = %d octets, error %d; want error %d", a.Rows, a.Cols, len(a.Data), len(got), err, want)
		}
	}
	for _, a := range []api.Mat{{}, {Data: []uint64{}}, {Data: []uint64{one}}, mat(1, 1), mat(1, 1, one, one), mat(2, 2, one, one, one), mat(0, 1), mat(1, 0), mat(-1, -1, one), filled(65, 1, great), filled(1, 65, great), filled(65, 65, great), mat(math.MinInt, 1, one), mat(1, math.MaxInt, one), mat(1<<32, 1<<32)} {
		hold(a, api.ErrShape)
	}
	// 4096 numbers of 15 octets, with a blank or a newline behind each: just 2^16.
	long := filled(64, 64, math.Float64bits(-0x1fffffffffff))
	if count := len(linesOf(long)); count != api.MaxText {
		t.Fatalf("the test's text has %d octets", count)
	}
	holdMatrix(t, long, linesOf(long))
	last := slices.Clone(long.Data)
	last[4095] = math.Float64bits(-0x1ffffffffffff)
	hold(mat(64, 64, last...), api.ErrLong)
	if got, err := dump.Read(linesOf(mat(64, 64, last...))); !sameMat(got, api.Mat{}) || err != api.ErrLong {
		t.Errorf("P40.1: Read of 2^16 + 1 octets tells error %d", err)
	}
	hold(filled(64, 64, sign|great), api.ErrLong)
}

// P40.1: texts that are no matrix's.
func TestReadErrors(t *testing.T) {
	hold := func(s string, want api.Errno) {
		t.Helper()
		if got, err := dump.Read(s); !sameMat(got, api.Mat{}) || err != want {
			t.Errorf("P40.1: Read of %d octets, %.30q = %v, error %d; want error %d", len(s), s, got, err, want)
		}
	}
	for _, s := range []string{
		"", "\n", "\n\n", " \n", "1p0", "1p0 1p0", "1p0\n1p0", "1p0\n\n", "\n1p0\n", "1p0\n\n1p0\n", "1p0  1p0\n", " 1p0\n", "1p0 \n", "1p0 1p0 \n", "1p0 1p0\n1p0 \n", "1p0\n \n", "1p0\n1p0 1p0\n", "1p0 1p0\n1p0\n", "1p0 1p0\n1p0 1p0 1p0\n", "0\n0 0 0\n0 0\n", "0 0 0\n0\n0 0\n",
		"1p0\t1p0\n", "1p0\r\n", "1p0\n ", "1p0\n\x00", "1p0,1p0\n", "2p0\n", "1p0 2p0\n", "-nan\n", "1p0 \n1p0 1p0\n", "1p0\v\n", "+0\n", "1p0\u00a01p0\n", "0 0\n0 0\n0 -\n",
		strings.Repeat("0 ", 64) + "0\n", strings.Repeat("0\n", 65), strings.Repeat(strings.Repeat("0 ", 64)+"0\n", 65), strings.Repeat("0\n", 32768), strings.Repeat("0 ", 32767) + "0\n",
		strings.Repeat("\n", 65536), strings.Repeat(" ", 65536), strings.Repeat("0", 65535) + "\n",
	} {
		hold(s, api.ErrSyntax)
	}
	for _, s := range []string{strings.Repeat("0 ", 32768) + "\n", strings.Repeat("\n", 65537), strings.Repeat("x", 1<<20), strings.Repeat("0\n", 32769), strings.Repeat("1p0\n", 1<<18)} {
		hold(s, api.ErrLong)
	}
	holdMatrix(t, filled(1, 64, 0), strings.Repeat("0 ", 63)+"0\n")
	holdMatrix(t, filled(64, 1, 0), strings.Repeat("0\n", 64))
}

// P40.3: what is handed in isn't changed, and shares nothing with what is told.
func TestMemory(t *testing.T) {
	in := append(make([]uint64, 0, 8), one, 0, sign, inf)
	text, _ := dump.Matrix(mat(2, 2, in...))
	if !slices.Equal(in[:8], []uint64{one, 0, sign, inf, 0, 0, 0, 0}) || text != "1p0 0\n-0 inf\n" {
		t.Errorf("P40.3: Matrix changes its words: %#x, %q", in, text)
	}
	a, _ := dump.Read(text)
	clear(a.Data)
	if b, _ := dump.Read(text); !slices.Equal(b.Data, in) || text != "1p0 0\n-0 inf\n" {
		t.Errorf("P40.3: Read's answer is shared: %#x", b.Data)
	}
}
