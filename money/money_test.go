package money

import (
	"fmt"
	"math"
	"math/big"
	"math/rand"
	"regexp"
	"slices"
	"strings"
	"testing"

	"compline/api"
)

// edges are amounts at which reckoning turns: 0, the ends, the halves, the roots, and what is next to them.
var edges = []int64{
	math.MinInt64, math.MinInt64 + 1, math.MinInt64 + 2, math.MinInt64/2 - 1, math.MinInt64 / 2, math.MinInt64/2 + 1,
	-1<<32 - 1, -1 << 32, -1<<32 + 1, -1 << 31, -3037000500, -3037000499, -12345, -101, -100, -99, -10, -9, -3, -2, -1,
	0, 1, 2, 3, 9, 10, 99, 100, 101, 12345, 3037000499, 3037000500, 1 << 31, 1<<32 - 1, 1 << 32, 1<<32 + 1,
	math.MaxInt64/2 - 1, math.MaxInt64 / 2, math.MaxInt64/2 + 1, math.MaxInt64 - 2, math.MaxInt64 - 1, math.MaxInt64,
}

// amount is what exact reckoning answers: n where that is an amount, else ErrOver.
func amount(n *big.Int) (int64, api.Errno) {
	if n.IsInt64() {
		return n.Int64(), api.OK
	}
	return 0, api.ErrOver
}

// some are edges and amounts of every length, the same at each run.
func some() []int64 {
	r := rand.New(rand.NewSource(1))
	l := slices.Clone(edges)
	for shift := range 64 {
		n := int64(r.Uint64() >> shift)
		l = append(l, n, -n)
	}
	return l
}

// 1.1: Add, Sub and Mul of every pair are what exact reckoning answers; 0 stands beside ErrOver.
func TestPairsAreExact(t *testing.T) {
	for _, c := range []struct {
		name  string
		f     func(a, b int64) (int64, api.Errno)
		exact func(z, x, y *big.Int) *big.Int
	}{
		{"Add", Add, (*big.Int).Add},
		{"Sub", Sub, (*big.Int).Sub},
		{"Mul", Mul, (*big.Int).Mul},
	} {
		for _, a := range some() {
			for _, b := range some() {
				want, we := amount(c.exact(new(big.Int), big.NewInt(a), big.NewInt(b)))
				if n, e := c.f(a, b); n != want || e != we {
					t.Fatalf("%s(%d, %d): %d, %v; asked for: %d, %v", c.name, a, b, n, e, want, we)
				}
			}
		}
	}
}

// 1.1: plain numbers, written down by hand.
func TestPairsByHand(t *testing.T) {
	for _, c := range []struct {
		name string
		f    func(a, b int64) (int64, api.Errno)
		a, b int64
		n    int64
		e    api.Errno
	}{
		{"Add", Add, 2, 3, 5, api.OK},
		{"Add", Add, math.MaxInt64, 1, 0, api.ErrOver},
		{"Add", Add, math.MinInt64, -1, 0, api.ErrOver},
		{"Add", Add, math.MinInt64, math.MinInt64, 0, api.ErrOver},
		{"Sub", Sub, 2, 3, -1, api.OK},
		{"Sub", Sub, 0, math.MinInt64, 0, api.ErrOver},
		{"Sub", Sub, math.MinInt64, 1, 0, api.ErrOver},
		{"Mul", Mul, -2, 3, -6, api.OK},
		{"Mul", Mul, 0, math.MinInt64, 0, api.OK},
		{"Mul", Mul, math.MinInt64, 1, math.MinInt64, api.OK},
		{"Mul", Mul, math.MinInt64, -1, 0, api.ErrOver},
		{"Mul", Mul, math.MinInt64, math.MinInt64, 0, api.ErrOver},
		{"Mul", Mul, 1 << 32, 1 << 32, 0, api.ErrOver},
		{"Mul", Mul, 7, 1317624576693539401, math.MaxInt64, api.OK},
		{"Mul", Mul, 1 << 32, -1 << 31, math.MinInt64, api.OK},
		{"Mul", Mul, 1 << 32, 1 << 31, 0, api.ErrOver},
		{"Mul", Mul, 3, -3074457345618258603, 0, api.ErrOver}, // just below the least amount
		{"Mul", Mul, -3, -3074457345618258603, 0, api.ErrOver},
	} {
		if n, e := c.f(c.a, c.b); n != c.n || e != c.e {
			t.Errorf("%s(%d, %d): %d, %v", c.name, c.a, c.b, n, e)
		}
	}
}

// 1.1: Neg is as far on the other side of 0; only -2^63 has nothing there.
func TestNeg(t *testing.T) {
	for _, a := range some() {
		want, we := amount(new(big.Int).Neg(big.NewInt(a)))
		if n, e := Neg(a); n != want || e != we {
			t.Errorf("Neg(%d): %d, %v", a, n, e)
		}
	}
	if n, e := Neg(math.MinInt64); n != 0 || e != api.ErrOver {
		t.Errorf("Neg of the least: %d, %v", n, e)
	}
}

// total is the exact sum of a list.
func total(l []int64) (int64, api.Errno) {
	n := new(big.Int)
	for _, a := range l {
		n.Add(n, big.NewInt(a))
	}
	return amount(n)
}

// 1.1: Sum judges the last sum alone, not those on the way.
func TestSumByHand(t *testing.T) {
	const most, least = math.MaxInt64, math.MinInt64
	for _, c := range []struct {
		l []int64
		n int64
		e api.Errno
	}{
		{nil, 0, api.OK},
		{[]int64{}, 0, api.OK},
		{[]int64{-7}, -7, api.OK},
		{[]int64{1, 2, 3}, 6, api.OK},
		{[]int64{most, 1, -1}, most, api.OK},
		{[]int64{least, -1, 1}, least, api.OK},
		{[]int64{most, most, least, least, 2}, 0, api.OK},
		{[]int64{most, 1}, 0, api.ErrOver},
		{[]int64{least, -1}, 0, api.ErrOver},
		{[]int64{most, most, most, most}, 0, api.ErrOver},
		{[]int64{least, least, least, least}, 0, api.ErrOver},
		{[]int64{least, least}, 0, api.ErrOver},
		{[]int64{most, most, 2}, 0, api.ErrOver},
	} {
		if n, e := Sum(c.l); n != c.n || e != c.e {
			t.Errorf("Sum(%d): %d, %v", c.l, n, e)
		}
	}
}

// 1.1, 1.4: sums of any amounts are exact, and the same in whatever order these stand; the list stays as it was.
func TestSumIsExactInAnyOrder(t *testing.T) {
	r := rand.New(rand.NewSource(2))
	all := some()
	for range 5000 {
		l := make([]int64, r.Intn(9))
		for i := range l {
			l[i] = all[r.Intn(len(all))]
		}
		want, we := total(l)
		for range 4 {
			before := slices.Clone(l)
			if n, e := Sum(l); n != want || e != we {
				t.Fatalf("Sum(%d): %d, %v; asked for: %d, %v", l, n, e, want, we)
			}
			if !slices.Equal(l, before) {
				t.Fatalf("Sum changed %d to %d", before, l)
			}
			r.Shuffle(len(l), func(i, k int) { l[i], l[k] = l[k], l[i] })
		}
	}
}

// 1.1: sums on the way may leave the range by far, and come back.
func TestSumOfVeryMany(t *testing.T) {
	l := slices.Repeat([]int64{math.MinInt64}, 1000)
	l = append(l, slices.Repeat([]int64{math.MaxInt64}, 1000)...)
	if n, e := Sum(l); n != -1000 || e != api.OK {
		t.Errorf("%d, %v", n, e)
	}
	if n, e := Sum(l[:1000]); n != 0 || e != api.ErrOver {
		t.Errorf("%d, %v", n, e)
	}
}

// 1.2: Size, also of the one amount that has no counterpart.
func TestSize(t *testing.T) {
	for _, a := range some() {
		if n := Size(a); n != new(big.Int).Abs(big.NewInt(a)).Uint64() {
			t.Errorf("Size(%d): %d", a, n)
		}
	}
	if Size(math.MinInt64) != 1<<63 {
		t.Errorf("Size of the least: %d", Size(math.MinInt64))
	}
}

// 1.2: Least is one of both, and above none.
func TestLeast(t *testing.T) {
	for _, a := range some() {
		for _, b := range some() {
			n := Least(a, b)
			if n != a && n != b || n > a || n > b {
				t.Fatalf("Least(%d, %d): %d", a, b, n)
			}
		}
	}
}

// 1.2: Over is the difference, between 0 and the greatest amount.
func TestOver(t *testing.T) {
	none, most := big.NewInt(0), big.NewInt(math.MaxInt64)
	for _, a := range some() {
		for _, b := range some() {
			want := new(big.Int).Sub(big.NewInt(a), big.NewInt(b))
			if want.Cmp(none) < 0 {
				want = none
			}
			if want.Cmp(most) > 0 {
				want = most
			}
			if n := Over(a, b); n != want.Int64() {
				t.Fatalf("Over(%d, %d): %d; asked for: %d", a, b, n, want)
			}
		}
	}
	for _, c := range [][3]int64{
		{5, 3, 2}, {3, 5, 0}, {3, 3, 0}, {0, -1, 1},
		{math.MaxInt64, 0, math.MaxInt64}, {math.MaxInt64, -1, math.MaxInt64}, {math.MaxInt64, math.MinInt64, math.MaxInt64},
		{0, math.MinInt64, math.MaxInt64}, {-1, math.MinInt64, math.MaxInt64}, {-2, math.MinInt64, math.MaxInt64 - 1},
		{math.MinInt64, math.MaxInt64, 0},
	} {
		if n := Over(c[0], c[1]); n != c[2] {
			t.Errorf("Over(%d, %d): %d", c[0], c[1], n)
		}
	}
}

// 1.3: texts written down by hand, read as they were.
func TestTextByHand(t *testing.T) {
	for _, c := range []struct {
		a int64
		s string
	}{
		{0, "0.00"}, {1, "0.01"}, {9, "0.09"}, {10, "0.10"}, {99, "0.99"}, {100, "1.00"}, {101, "1.01"}, {110, "1.10"},
		{-1, "-0.01"}, {-5, "-0.05"}, {-99, "-0.99"}, {-100, "-1.00"}, {-1050, "-10.50"}, {100000, "1000.00"}, {123456, "1234.56"},
		{math.MaxInt64, "92233720368547758.07"}, {math.MinInt64, "-92233720368547758.08"}, {math.MinInt64 + 1, "-92233720368547758.07"},
	} {
		if s := Text(c.a); s != c.s {
			t.Errorf("Text(%d): %q", c.a, s)
		}
		if a, e := Parse(c.s); a != c.a || e != api.OK {
			t.Errorf("Parse(%q): %d, %v", c.s, a, e)
		}
	}
}

// spelt is an amount's text, put together another way.
func spelt(a int64) string {
	n := new(big.Int).Abs(big.NewInt(a))
	whole, minor := new(big.Int).QuoRem(n, big.NewInt(100), new(big.Int))
	s := fmt.Sprintf("%d.%02d", whole, minor)
	if a < 0 {
		s = "-" + s
	}
	return s
}

// 1.3, 1.4: each amount has one text, which is read as it was.
func TestTextIsRead(t *testing.T) {
	l := some()
	for a := int64(-1100); a <= 1100; a++ {
		l = append(l, a)
	}
	texts := map[string]int64{}
	for _, a := range l {
		s := Text(a)
		if s != spelt(a) {
			t.Fatalf("Text(%d): %q", a, s)
		}
		if n, e := Parse(s); n != a || e != api.OK {
			t.Fatalf("Parse(%q): %d, %v", s, n, e)
		}
		if b, ok := texts[s]; ok && b != a {
			t.Fatalf("%q is the text of %d and of %d", s, a, b)
		}
		texts[s] = a
	}
}

// 1.3: what is no amount's text is ErrForm, with 0 beside it.
func TestParseOfWrongTexts(t *testing.T) {
	for _, s := range []string{
		"", "-", ".", "-.", "--", "0", "1", "-1", "1.", "1.0", "1.000", "0.0", ".00", ".5", "-.50", "100",
		"-0.00", "00.00", "01.00", "-01.00", "007.00", "+1.00", "+0.00", "--1.00", "-+1.00", "1.-1", "1.+1", "-1.-1",
		" 1.00", "1.00 ", "1 .00", "1.00\n", "\t1.00", "1.00\x00", "1,00", "1..00", "1.0.0", "1.00.", ".1.00", "1.2.34",
		"1_0.00", "0x1.00", "1e2.00", "1.e0", "NaN", "Inf", "a.bc", "1.0a", "١.٠٠", "１.００", "\xff.00", "1.\xff\xff", "−1.00",
		"92233720368547758.08", "-92233720368547758.09", "92233720368547759.00", "99999999999999999.99", "-99999999999999999.99",
		"922337203685477580.07", "18446744073709551616.00", "184467440737095516.16", "184467440737095516.17", "-184467440737095516.17",
		"000000000000000001.00", strings.Repeat("0", 1000) + "1.00", strings.Repeat("9", 100000) + ".00", "1.00" + strings.Repeat("0", 100000),
		strings.Repeat("-", 21), strings.Repeat(".", 21), strings.Repeat("\x00", 21),
	} {
		if a, e := Parse(s); a != 0 || e != api.ErrForm {
			t.Errorf("Parse(%.30q): %d, %v", s, a, e)
		}
	}
}

// 1.3: of all short texts of the characters that texts have, and of some that they have not, just those that have the form are read.
func TestParseOfAllShortTexts(t *testing.T) {
	form := regexp.MustCompile(`^-?(0|[1-9][0-9]*)\.[0-9][0-9]$`)
	var try func(s string, more int)
	try = func(s string, more int) {
		a, e := Parse(s)
		if form.MatchString(s) && s != "-0.00" {
			if e != api.OK || spelt(a) != s {
				t.Fatalf("Parse(%q): %d, %v", s, a, e)
			}
		} else if a != 0 || e != api.ErrForm {
			t.Fatalf("Parse(%q): %d, %v", s, a, e)
		}
		if more > 0 {
			for _, c := range "-+.019_ e" {
				try(s+string(c), more-1)
			}
		}
	}
	try("", 6)
}
