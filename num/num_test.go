package num

import (
	"math"
	"math/big"
	"math/rand"
	"slices"
	"strings"
	"testing"

	"compline/api"
)

const (
	most  = math.MaxInt64
	least = math.MinInt64
)

// byHand are numbers and their bytes, written down by hand: each length of a code, at its first number and at its last one.
var byHand = []struct {
	n int64
	s string
}{
	{0, "\x00"},
	{-1, "\x01"},
	{1, "\x02"},
	{-2, "\x03"},
	{2, "\x04"},
	{10, "\x14"},
	{63, "\x7e"},
	{-64, "\x7f"},
	{64, "\x80\x01"},
	{-65, "\x81\x01"},
	{100, "\xc8\x01"},
	{127, "\xfe\x01"},
	{-128, "\xff\x01"},
	{128, "\x80\x02"},
	{8191, "\xfe\x7f"},
	{-8192, "\xff\x7f"},
	{8192, "\x80\x80\x01"},
	{-8193, "\x81\x80\x01"},
	{1<<20 - 1, "\xfe\xff\x7f"},
	{-1 << 20, "\xff\xff\x7f"},
	{1 << 20, "\x80\x80\x80\x01"},
	{1<<27 - 1, "\xfe\xff\xff\x7f"},
	{1 << 27, "\x80\x80\x80\x80\x01"},
	{1 << 34, "\x80\x80\x80\x80\x80\x01"},
	{1 << 41, "\x80\x80\x80\x80\x80\x80\x01"},
	{1 << 48, "\x80\x80\x80\x80\x80\x80\x80\x01"},
	{1 << 55, "\x80\x80\x80\x80\x80\x80\x80\x80\x01"},
	{1<<62 - 1, "\xfe\xff\xff\xff\xff\xff\xff\xff\x7f"},
	{-1 << 62, "\xff\xff\xff\xff\xff\xff\xff\xff\x7f"},
	{1 << 62, "\x80\x80\x80\x80\x80\x80\x80\x80\x80\x01"},
	{-1<<62 - 1, "\x81\x80\x80\x80\x80\x80\x80\x80\x80\x01"},
	{most, "\xfe\xff\xff\xff\xff\xff\xff\xff\xff\x01"},
	{least + 1, "\xfd\xff\xff\xff\xff\xff\xff\xff\xff\x01"},
	{least, "\xff\xff\xff\xff\xff\xff\xff\xff\xff\x01"},
}

// some are numbers: those about each power of two, on both sides of 0, and of every length some that are drawn.
func some() []int64 {
	r := rand.New(rand.NewSource(1))
	l := []int64{most, most - 1, least, least + 1}
	for shift := range 63 {
		for d := range int64(5) {
			n := 1<<shift + d - 2
			l = append(l, n, -n)
		}
		for range 20 {
			n := int64(r.Uint64() >> shift)
			l = append(l, n, -n)
		}
	}
	return l
}

// slowPut is a number's bytes, reckoned exactly, as the chapter says it.
func slowPut(n int64) string {
	c := big.NewInt(n)
	if n >= 0 {
		c.Mul(c, big.NewInt(2))
	} else {
		c.Sub(c.Mul(c, big.NewInt(-2)), big.NewInt(1))
	}
	var b []byte
	for first := true; first || c.Sign() > 0; first = false {
		if len(b) > 0 {
			b[len(b)-1] += 128
		}
		seven := new(big.Int)
		c.DivMod(c, big.NewInt(128), seven)
		b = append(b, byte(seven.Uint64()))
	}
	return string(b)
}

// slowGet is the number whose bytes stand at the front: of the bytes up to the first one without its highest bit the value is reckoned exactly, and held against all numbers by their bytes.
func slowGet(s string) (int64, string, api.Errno) {
	c, place := new(big.Int), big.NewInt(1)
	for i := range len(s) {
		c.Add(c, new(big.Int).Mul(place, big.NewInt(int64(s[i]%128))))
		place.Mul(place, big.NewInt(128))
		if s[i] >= 128 {
			continue
		}
		half, odd := new(big.Int).DivMod(c, big.NewInt(2), new(big.Int))
		if odd.Sign() > 0 {
			half.Not(half)
		}
		if !half.IsInt64() || slowPut(half.Int64()) != s[:i+1] {
			return 0, "", api.ErrForm
		}
		return half.Int64(), s[i+1:], api.OK
	}
	if len(s) < 10 {
		return 0, "", api.ErrShort
	}
	return 0, "", api.ErrForm
}

// gets tells where Get is not what is reckoned.
func gets(t *testing.T, s string) {
	t.Helper()
	want, wantRest, we := slowGet(s)
	if n, rest, e := Get(s); n != want || rest != wantRest || e != we {
		t.Fatalf("Get(%x): %d, %x, %v; asked for: %d, %x, %v", s, n, rest, e, want, wantRest, we)
	}
}

// words tells all texts of so many of these bytes, one behind the other.
func words(alphabet string, n int, tell func(s string)) {
	if n == 0 {
		tell("")
		return
	}
	words(alphabet, n-1, func(s string) {
		for i := range len(alphabet) {
			tell(s + alphabet[i:i+1])
		}
	})
}

// turns are bytes at which a code turns: its last one or not, nothing in it or all.
const turns = "\x00\x01\x02\x7f\x80\x81\xff"

// 7.1: numbers and their bytes, both ways, whatever stands behind.
func TestByHand(t *testing.T) {
	for _, c := range byHand {
		if s := Put(c.n); s != c.s {
			t.Errorf("Put(%d): %x; asked for: %x", c.n, s, c.s)
		}
		for _, behind := range []string{"", "\x00", "z", "\x80", c.s, "\xff\xff\xff\xff\xff\xff\xff\xff\xff\xff\xff", strings.Repeat("y", 3000)} {
			if n, rest, e := Get(c.s + behind); n != c.n || rest != behind || e != api.OK {
				t.Errorf("Get(%x, %x): %d, %x, %v", c.s, behind, n, rest, e)
			}
		}
	}
}

// 7.1: Put is what is reckoned exactly: of all numbers near 0, and of some of every length.
func TestPut(t *testing.T) {
	for n := int64(-20000); n <= 20000; n++ {
		if s := Put(n); s != slowPut(n) {
			t.Fatalf("Put(%d): %x; asked for: %x", n, s, slowPut(n))
		}
	}
	for _, n := range some() {
		if s := Put(n); s != slowPut(n) {
			t.Fatalf("Put(%d): %x; asked for: %x", n, s, slowPut(n))
		}
	}
}

// 7.1: All is the bytes of all, one behind the other; of none nothing; what is handed in stays.
func TestAll(t *testing.T) {
	if All() != "" || All([]int64{}...) != "" || All(nil...) != "" {
		t.Errorf("All of none: %x", All())
	}
	if s := All(0); s != "\x00" {
		t.Errorf("All(0): %x", s)
	}
	if s := All(5, -3, 64, 0, 1); s != "\x0a\x05\x80\x01\x00\x02" {
		t.Errorf("All(5, -3, 64, 0, 1): %x", s)
	}
	l := some()
	was := slices.Clone(l)
	var want strings.Builder
	for _, n := range l {
		want.WriteString(slowPut(n))
	}
	if s := All(l...); s != want.String() {
		t.Errorf("All of %d numbers has %d bytes; asked for: %d", len(l), len(s), want.Len())
	}
	if !slices.Equal(l, was) {
		t.Errorf("All changed its numbers")
	}
}

// 7.1: a text's bytes are its length, counted in bytes, and it.
func TestText(t *testing.T) {
	for _, c := range []struct{ s, want string }{
		{"", "\x00"},
		{"a", "\x02a"},
		{"ab", "\x04ab"},
		{"\x00", "\x02\x00"},
		{"é", "\x04é"},
		{"\xff\xfe", "\x04\xff\xfe"},
		{strings.Repeat("x", 63), "\x7e" + strings.Repeat("x", 63)},
		{strings.Repeat("x", 64), "\x80\x01" + strings.Repeat("x", 64)},
		{strings.Repeat("x", 8191), "\xfe\x7f" + strings.Repeat("x", 8191)},
		{strings.Repeat("x", 8192), "\x80\x80\x01" + strings.Repeat("x", 8192)},
	} {
		if s := Text(c.s); s != c.want {
			t.Errorf("Text of %d bytes: %x; asked for: %x", len(c.s), s, c.want)
		}
	}
}

// 7.1: what is no number's bytes, and what ends ahead of them, written down by hand.
func TestGetWrong(t *testing.T) {
	nines := func(s string) string { return strings.Repeat(s, 9) }
	for _, c := range []struct {
		s    string
		want api.Errno
	}{
		{"", api.ErrShort},
		{"\x80", api.ErrShort},
		{"\xff", api.ErrShort},
		{"\x80\x80", api.ErrShort},
		{nines("\x80"), api.ErrShort},
		{nines("\xff"), api.ErrShort},
		{"\x80\x00", api.ErrForm},
		{"\xff\x00", api.ErrForm},
		{"\x80\x00\x01", api.ErrForm},
		{"\x80\x80\x00", api.ErrForm},
		{"\xff\x80\x00z", api.ErrForm},
		{nines("\x80") + "\x00", api.ErrForm},
		{nines("\xff") + "\x00", api.ErrForm},
		{nines("\x80") + "\x02", api.ErrForm},
		{nines("\xff") + "\x02", api.ErrForm},
		{nines("\xff") + "\x03", api.ErrForm},
		{nines("\x80") + "\x7f", api.ErrForm},
		{nines("\x80") + "\x80", api.ErrForm}, // no number goes on behind ten
		{nines("\x80") + "\x81", api.ErrForm},
		{nines("\xff") + "\xff", api.ErrForm},
		{nines("\x80") + "\x80\x01", api.ErrForm},
		{nines("\x80") + "\x80\x00", api.ErrForm},
		{nines("\x80") + "\x81\x00", api.ErrForm},
		{strings.Repeat("\x80", 5000) + "\x01", api.ErrForm},
	} {
		if n, rest, e := Get(c.s); n != 0 || rest != "" || e != c.want {
			t.Errorf("Get(%x): %d, %x, %v; asked for: %v", c.s, n, rest, e, c.want)
		}
	}
}

// 7.1: Get is what is reckoned: of all texts of at most two bytes, of longer ones of bytes at which a code turns, and of drawn ones.
func TestGet(t *testing.T) {
	var all []byte
	for b := range 256 {
		all = append(all, byte(b))
	}
	for n := range 3 {
		words(string(all), n, func(s string) { gets(t, s) })
	}
	for n := range 6 {
		words(turns, n, func(s string) { gets(t, s) })
	}
	for _, ahead := range []string{"\x80", "\xff", "\xa5"} {
		for k := 5; k < 13; k++ {
			for n := range 4 {
				words(turns, n, func(s string) { gets(t, strings.Repeat(ahead, k)+s) })
			}
		}
	}
	r := rand.New(rand.NewSource(2))
	for range 20000 {
		b := make([]byte, r.Intn(14))
		for i := range b {
			b[i] = byte(r.Intn(256))
			if r.Intn(8) > 0 {
				b[i] |= 128
			}
		}
		gets(t, string(b))
	}
}

// 7.1: a number's bytes that are cut off are too short, wherever that is.
func TestGetCutOff(t *testing.T) {
	for _, n := range some() {
		s := Put(n)
		for k := range len(s) {
			if m, rest, e := Get(s[:k]); m != 0 || rest != "" || e != api.ErrShort {
				t.Fatalf("Get(%x): %d, %x, %v", s[:k], m, rest, e)
			}
		}
	}
}

// state is what a reader tells without reading.
type state struct {
	left     int
	err, end api.Errno
}

// tells holds what a reader tells without reading against what is asked for.
func tells(t *testing.T, r *Reader, left int, err, end api.Errno) {
	t.Helper()
	want := state{left, err, end}
	// End first and last: it is told alone, and leaves no error behind.
	if e := r.End(); e != end {
		t.Fatalf("End: %v; asked for: %v", e, end)
	}
	if is := (state{r.Left(), r.Err(), r.End()}); is != want {
		t.Fatalf("left %d, %v, at its end %v; asked for: %d, %v, %v", is.left, is.err, is.end, left, err, end)
	}
}

// silent tells where a reader with an error has something to tell still.
func silent(t *testing.T, r *Reader) {
	t.Helper()
	left, err := r.Left(), r.Err()
	for range 2 {
		if n, u, s := r.Num(), r.Upto(most), r.Text(math.MaxInt); n != 0 || u != 0 || s != "" {
			t.Fatalf("behind its error: %d, %d, %q", n, u, s)
		}
		tells(t, r, left, err, err)
	}
}

// 7.2: a reader reads values from the front on, to the end.
func TestReader(t *testing.T) {
	r := New(All(5, -3) + Text("ab") + Text("") + Put(64) + Text("\x80\xff"))
	tells(t, r, 11, api.OK, api.ErrForm)
	if n := r.Upto(5); n != 5 {
		t.Errorf("Upto(5): %d", n)
	}
	tells(t, r, 10, api.OK, api.ErrForm)
	if n := r.Num(); n != -3 {
		t.Errorf("Num: %d", n)
	}
	tells(t, r, 9, api.OK, api.ErrForm)
	if s := r.Text(2); s != "ab" {
		t.Errorf("Text(2): %q", s)
	}
	tells(t, r, 6, api.OK, api.ErrForm)
	if s := r.Text(0); s != "" {
		t.Errorf("Text(0): %q", s)
	}
	tells(t, r, 5, api.OK, api.ErrForm)
	if n := r.Upto(most); n != 64 {
		t.Errorf("Upto: %d", n)
	}
	tells(t, r, 3, api.OK, api.ErrForm)
	if s := r.Text(math.MaxInt); s != "\x80\xff" {
		t.Errorf("Text: %q", s)
	}
	tells(t, r, 0, api.OK, api.OK)
	if n := r.Num(); n != 0 {
		t.Errorf("Num behind the end: %d", n)
	}
	tells(t, r, 0, api.ErrShort, api.ErrShort)
	silent(t, r)
}

// 7.2: no reader has zero and ErrArg; a reader of nothing has nothing left, and is at its end.
func TestNoReader(t *testing.T) {
	var none *Reader
	tells(t, none, 0, api.ErrArg, api.ErrArg)
	silent(t, none)
	tells(t, New(""), 0, api.OK, api.OK)
	tells(t, &Reader{}, 0, api.OK, api.OK)
	for _, read := range []func(r *Reader){
		func(r *Reader) { r.Num() },
		func(r *Reader) { r.Upto(9) },
		func(r *Reader) { r.Upto(-9) },
		func(r *Reader) { r.Text(9) },
		func(r *Reader) { r.Text(-9) },
	} {
		for _, r := range []*Reader{New(""), {}} {
			read(r)
			tells(t, r, 0, api.ErrShort, api.ErrShort)
			silent(t, r)
		}
	}
}

// 7.2: Num has Get's number, or its error, and what was wrong is left.
func TestReaderNum(t *testing.T) {
	for _, c := range byHand {
		r := New(c.s + "z")
		if n := r.Num(); n != c.n {
			t.Errorf("Num of %x: %d", c.s, n)
		}
		tells(t, r, 1, api.OK, api.ErrForm)
	}
	for n := range 4 {
		words(turns, n, func(s string) {
			r := New(Put(7) + s)
			r.Num()
			want, rest, e := slowGet(s)
			if is := r.Num(); is != want || r.Err() != e {
				t.Fatalf("Num of %x: %d, %v; asked for: %d, %v", s, is, r.Err(), want, e)
			}
			if e == api.OK {
				if r.Left() != len(rest) {
					t.Fatalf("Num of %x: %d left", s, r.Left())
				}
				return
			}
			tells(t, r, len(s), e, e)
			silent(t, r)
		})
	}
}

// 7.2: Upto has a number from 0 to most, both with them; of another one, or of no number, it is left, and what is wrong is told.
func TestReaderUpto(t *testing.T) {
	numbers := []int64{least, least + 1, -1000, -2, -1, 0, 1, 2, 63, 64, 65, 1000, most - 1, most}
	for _, n := range numbers {
		for _, to := range numbers {
			s := Put(n) + "z"
			r := New(s)
			is := r.Upto(to)
			if n >= 0 && n <= to {
				if is != n {
					t.Errorf("Upto(%d) of %d: %d", to, n, is)
				}
				tells(t, r, 1, api.OK, api.ErrForm)
				continue
			}
			if is != 0 {
				t.Errorf("Upto(%d) of %d: %d", to, n, is)
			}
			tells(t, r, len(s), api.ErrForm, api.ErrForm)
			silent(t, r)
		}
	}
	for _, to := range numbers {
		for s, e := range map[string]api.Errno{"": api.ErrShort, "\x80": api.ErrShort, "\x80\x00": api.ErrForm} {
			r := New(s)
			if n := r.Upto(to); n != 0 {
				t.Errorf("Upto(%d) of %x: %d", to, s, n)
			}
			tells(t, r, len(s), e, e)
			silent(t, r)
		}
	}
}

// 7.2: Text has a text of at most so many bytes; else the error of its length comes first, then that it is not all there; then the length is left, too.
func TestReaderText(t *testing.T) {
	long := strings.Repeat("x", 300)
	for _, c := range []struct {
		s    string
		most int
		want string
		left int
		e    api.Errno
	}{
		{"\x04abz", 2, "ab", 1, api.OK},
		{"\x04abz", 3, "ab", 1, api.OK},
		{"\x04abz", math.MaxInt, "ab", 1, api.OK},
		{"\x04ab", 2, "ab", 0, api.OK},
		{"\x04\xc3\xa9z", 2, "é", 1, api.OK},
		{"\x04\x80\x00z", 2, "\x80\x00", 1, api.OK},
		{"\x00z", 0, "", 1, api.OK},
		{"\x00", 0, "", 0, api.OK},
		{"\x00z", 9, "", 1, api.OK},
		{"\xd8\x04" + long + "z", 300, long, 1, api.OK},
		{"\x04abz", 1, "", 4, api.ErrForm},
		{"\x04abz", 0, "", 4, api.ErrForm},
		{"\x04abz", -1, "", 4, api.ErrForm},
		{"\x04abz", math.MinInt, "", 4, api.ErrForm},
		{"\xd8\x04" + long, 299, "", 302, api.ErrForm},
		{"\x00z", -1, "", 2, api.ErrForm},
		{"\x01z", 9, "", 2, api.ErrForm},  // -1
		{"\x01z", -1, "", 2, api.ErrForm}, // -1 is not from 0 on
		{"\x03z", -1, "", 2, api.ErrForm},
		{"\xff\xff\xff\xff\xff\xff\xff\xff\xff\x01z", math.MaxInt, "", 11, api.ErrForm},
		{"\x04a", 1, "", 2, api.ErrForm}, // too long, ahead of too short
		{"\x04", 1, "", 1, api.ErrForm},
		{"\x04a", 2, "", 2, api.ErrShort},
		{"\x04", 2, "", 1, api.ErrShort},
		{"\x02", 1, "", 1, api.ErrShort},
		{"\xd8\x04" + long[1:], 300, "", 301, api.ErrShort},
		{"\xfe\xff\xff\xff\xff\xff\xff\xff\xff\x01z", math.MaxInt, "", 11, api.ErrShort},
		{"\xfe\xff\xff\xff\xff\xff\xff\xff\xff\x01z", math.MaxInt - 1, "", 11, api.ErrForm},
		{"", 9, "", 0, api.ErrShort},
		{"", -1, "", 0, api.ErrShort},
		{"\x80", 9, "", 1, api.ErrShort},
		{"\x80", -1, "", 1, api.ErrShort},
		{"\x80\x00ab", 9, "", 4, api.ErrForm},
	} {
		r := New(c.s)
		if s := r.Text(c.most); s != c.want {
			t.Errorf("Text(%d) of %x: %q", c.most, c.s, s)
		}
		end := c.e
		if c.e == api.OK && c.left > 0 {
			end = api.ErrForm
		}
		tells(t, r, c.left, c.e, end)
		if c.e != api.OK {
			silent(t, r)
		}
	}
}

// 7.2: what End tells of bytes that are left is no first error: reading goes on, and only a value's error stays.
func TestReaderEnd(t *testing.T) {
	r := New(All(1, 2, 9))
	for i := range int64(2) {
		tells(t, r, 3-int(i), api.OK, api.ErrForm)
		if n := r.Num(); n != i+1 {
			t.Errorf("Num behind End: %d", n)
		}
	}
	if n := r.Upto(8); n != 0 {
		t.Errorf("Upto(8) of 9: %d", n)
	}
	tells(t, r, 1, api.ErrForm, api.ErrForm)
	silent(t, r) // also where Num could read what is left
	short := New("\x80")
	tells(t, short, 1, api.OK, api.ErrForm)
	short.Num()
	tells(t, short, 1, api.ErrShort, api.ErrShort) // the first error, not that something is left
}

// 7.2: readers of one text go on each on its own.
func TestReadersApart(t *testing.T) {
	s := All(1, 2, 3)
	a, b := New(s), New(s)
	if a.Num() != 1 || a.Num() != 2 || b.Num() != 1 || a.Num() != 3 || a.Num() != 0 || b.Num() != 2 || b.Err() != api.OK || b.Left() != 1 {
		t.Errorf("%v, %d left; %v, %d left", a.Err(), a.Left(), b.Err(), b.Left())
	}
}

// slowReader reads as the chapter says, by slowGet.
type slowReader struct {
	s string
	e api.Errno
}

// number is a number from low to high, what is behind it, and what is wrong with it.
func (r *slowReader) number(low, high int64) (int64, string, api.Errno) {
	if r.e != api.OK {
		return 0, "", r.e
	}
	n, rest, e := slowGet(r.s)
	if e == api.OK && (n < low || n > high) {
		return 0, "", api.ErrForm
	}
	return n, rest, e
}

// step reads one value: that of Num (0), of Upto (1), or of Text (2).
func (r *slowReader) step(what int, to int64) (int64, string) {
	low, high := int64(least), int64(most)
	if what > 0 {
		low, high = 0, to
	}
	n, rest, e := r.number(low, high)
	if e == api.OK && what > 1 && n > int64(len(rest)) {
		e = api.ErrShort
	}
	if e != api.OK {
		r.e = e
		return 0, ""
	}
	r.s = rest
	if what < 2 {
		return n, ""
	}
	r.s = rest[n:]
	return 0, rest[:n]
}

// 7.2: whatever is read of drawn bytes, in whatever order, is what the chapter's words come to.
func TestReaderOfDrawnBytes(t *testing.T) {
	draw := rand.New(rand.NewSource(3))
	seen := map[api.Errno]int{}
	for range 20000 {
		b := make([]byte, draw.Intn(20))
		for i := range b {
			b[i] = byte(draw.Intn(10))
			if draw.Intn(6) == 0 {
				b[i] = byte(draw.Intn(256))
			}
		}
		r, slow := New(string(b)), &slowReader{s: string(b)}
		for range 8 {
			what, to := draw.Intn(3), int64(draw.Intn(12)-1)
			var n int64
			var s string
			switch what {
			case 0:
				n = r.Num()
			case 1:
				n = r.Upto(to)
			case 2:
				s = r.Text(int(to))
			}
			if want, text := slow.step(what, to); n != want || s != text || r.Err() != slow.e || r.Left() != len(slow.s) {
				t.Fatalf("%x, %d up to %d: %d, %q, %v, %d left; asked for: %d, %q, %v, %d", b, what, to, n, s, r.Err(), r.Left(), want, text, slow.e, len(slow.s))
			}
		}
		seen[r.Err()]++
	}
	if seen[api.OK] == 0 || seen[api.ErrShort] == 0 || seen[api.ErrForm] == 0 {
		t.Errorf("too few kinds of ends: %v", seen)
	}
}

// 7.3: what is put is read as it was.
func TestPutIsRead(t *testing.T) {
	l := some()
	for _, n := range l {
		if m, rest, e := Get(Put(n) + "z"); m != n || rest != "z" || e != api.OK {
			t.Fatalf("Get(Put(%d)): %d, %q, %v", n, m, rest, e)
		}
	}
	r := New(All(l...))
	for _, n := range l {
		if m := r.Num(); m != n {
			t.Fatalf("Num of %d: %d", n, m)
		}
	}
	tells(t, r, 0, api.OK, api.OK)
	var texts []string
	var all strings.Builder
	for n := range 200 {
		texts = append(texts, strings.Repeat("\x80", n)+strings.Repeat("\x00", n/2))
		all.WriteString(Text(texts[n]))
	}
	r = New(all.String())
	for _, s := range texts {
		if is := r.Text(len(s)); is != s {
			t.Fatalf("Text of %q: %q", s, is)
		}
	}
	tells(t, r, 0, api.OK, api.OK)
}

// 7.3: a number has one form: whatever bytes are read as a number are those that are put of it, and no two numbers have like bytes.
func TestOneForm(t *testing.T) {
	one := func(s string) {
		if n, rest, e := Get(s); e == api.OK && Put(n)+rest != s {
			t.Fatalf("Get(%x): %d, whose bytes are %x", s, n, Put(n))
		}
	}
	for n := range 7 {
		words(turns, n, one)
	}
	for _, ahead := range []string{"\x80", "\xff"} {
		for k := 6; k < 12; k++ {
			words(turns, 3, func(s string) { one(strings.Repeat(ahead, k) + s) })
		}
	}
	seen := map[string]int64{}
	for _, n := range some() {
		if m, is := seen[Put(n)]; is && m != n {
			t.Fatalf("%d and %d have the bytes %x", m, n, Put(n))
		}
		seen[Put(n)] = n
	}
}
