package sum

import (
	"hash/crc32"
	"math/rand"
	"slices"
	"strings"
	"testing"
)

// slow is the sum of bytes behind others, bit by bit, as the chapter says it.
func slow(sum uint32, s string) uint32 {
	register := sum ^ 0xffffffff
	for _, b := range []byte(s) {
		register ^= uint32(b)
		for range 8 {
			left := register & 1
			register >>= 1
			if left == 1 {
				register ^= 0xedb88320
			}
		}
	}
	return register ^ 0xffffffff
}

// drawn is a text of so many bytes, any ones.
func drawn(r *rand.Rand, n int) string {
	l := make([]byte, n)
	r.Read(l)
	return string(l)
}

// 6.1: sums that are known.
func TestOfByHand(t *testing.T) {
	for _, c := range []struct {
		s    string
		want uint32
	}{
		{"", 0},
		{"123456789", 0xcbf43926},
		{"a", 0xe8b7be43},
		{"abc", 0x352441c2},
		{"The quick brown fox jumps over the lazy dog", 0x414fa339},
		{"\x00", 0xd202ef8d},
		{"\xff", 0xff000000},
		{"\x00\x00\x00\x00", 0x2144df1c},
		{"\xff\xff\xff\xff", 0xffffffff},
		{strings.Repeat("\x00", 32), 0x190a55ad},
		{strings.Repeat("\xff", 32), 0xff6cab0b},
	} {
		if n := Of(c.s); n != c.want {
			t.Errorf("Of(%q): %x; asked for: %x", c.s, n, c.want)
		}
	}
}

// 6.1: the sums of all texts of one byte, and of two, are those of the register.
func TestOfAllShortTexts(t *testing.T) {
	for a := range 256 {
		one := string([]byte{byte(a)})
		if n := Of(one); n != slow(0, one) {
			t.Fatalf("Of(%q): %x", one, n)
		}
		for b := range 256 {
			two := one + string([]byte{byte(b)})
			if n := Of(two); n != slow(0, two) {
				t.Fatalf("Of(%q): %x", two, n)
			}
		}
	}
}

// 6.1: the sums of texts of all lengths are those of the register, and those of the library of Go.
func TestOfDrawnTexts(t *testing.T) {
	r := rand.New(rand.NewSource(1))
	for n := range 1100 {
		s := drawn(r, n)
		if is := Of(s); is != slow(0, s) || is != crc32.ChecksumIEEE([]byte(s)) {
			t.Fatalf("Of(%q): %x", s, is)
		}
	}
	long := drawn(r, 1<<20)
	if n := Of(long); n != crc32.ChecksumIEEE([]byte(long)) {
		t.Errorf("Of a long text: %x", n)
	}
}

// 6.1: a text is summed byte by byte, also where it is no text of characters.
func TestBytesAreSummed(t *testing.T) {
	for _, s := range []string{"é", "\u20ac", "\U0001f600", "\xc3", "\xc3\xc3", "a\x80b", "\xf0\x9f", "\xef\xbf\xbd"} {
		if n := Of(s); n != slow(0, s) {
			t.Errorf("Of(%q): %x; asked for: %x", s, n, slow(0, s))
		}
	}
}

// 6.1: On goes on behind any number, as if it were a sum; nothing behind it leaves it as it is.
func TestOnOfAnyNumber(t *testing.T) {
	r := rand.New(rand.NewSource(2))
	numbers := []uint32{0, 1, 2, 0x7fffffff, 0x80000000, 0xfffffffe, 0xffffffff, 0xedb88320, 0xcbf43926}
	for range 300 {
		numbers = append(numbers, r.Uint32())
	}
	for _, n := range numbers {
		if is := On(n, ""); is != n {
			t.Errorf("On(%x, nothing): %x", n, is)
		}
		for a := range 256 {
			one := string([]byte{byte(a)})
			if is := On(n, one); is != slow(n, one) {
				t.Fatalf("On(%x, %q): %x; asked for: %x", n, one, is, slow(n, one))
			}
		}
		s := drawn(r, r.Intn(50))
		if is := On(n, s); is != slow(n, s) {
			t.Fatalf("On(%x, %q): %x; asked for: %x", n, s, is, slow(n, s))
		}
	}
}

// 6.1, 6.2: a text in two pieces, and in three, cut anywhere.
func TestPieces(t *testing.T) {
	s := drawn(rand.New(rand.NewSource(3)), 60)
	want := slow(0, s)
	for i := range len(s) + 1 {
		if n := On(Of(s[:i]), s[i:]); n != want {
			t.Errorf("cut at %d: %x; asked for: %x", i, n, want)
		}
		for k := i; k <= len(s); k++ {
			if n := Fold(s[:i], s[i:k], s[k:]); n != want {
				t.Fatalf("cut at %d, %d: %x; asked for: %x", i, k, n, want)
			}
		}
	}
}

// 6.1: Fold of any many texts, also of none, and of empty ones.
func TestFold(t *testing.T) {
	for _, c := range []struct {
		l    []string
		want uint32
	}{
		{nil, 0},
		{[]string{}, 0},
		{[]string{""}, 0},
		{[]string{"", "", ""}, 0},
		{[]string{"123456789"}, 0xcbf43926},
		{[]string{"12", "", "345", "6789"}, 0xcbf43926},
		{[]string{"", "123456789", ""}, 0xcbf43926},
		{strings.Split("123456789", ""), 0xcbf43926},
		{[]string{"c", "b", "a"}, slow(0, "cba")},
		{slices.Repeat([]string{"\x00"}, 4), 0x2144df1c},
	} {
		was := slices.Clone(c.l)
		if n := Fold(c.l...); n != c.want {
			t.Errorf("Fold(%q): %x; asked for: %x", c.l, n, c.want)
		}
		if !slices.Equal(c.l, was) {
			t.Errorf("%q became %q", was, c.l)
		}
	}
	if n := Fold(); n != 0 {
		t.Errorf("Fold of nothing: %x", n)
	}
	r := rand.New(rand.NewSource(4))
	for n := range 200 {
		l := make([]string, n)
		for i := range l {
			l[i] = drawn(r, r.Intn(6))
		}
		if is, want := Fold(l...), slow(0, strings.Join(l, "")); is != want {
			t.Fatalf("Fold(%q): %x; asked for: %x", l, is, want)
		}
	}
}

// 6.2: bytes of which just one is changed, to whatever, have another sum.
func TestOneByteChanged(t *testing.T) {
	r := rand.New(rand.NewSource(5))
	for _, n := range []int{1, 2, 3, 4, 5, 9, 33, 100} {
		s := drawn(r, n)
		want := Of(s)
		for i := range n {
			for to := range 256 {
				other := s[:i] + string([]byte{byte(to)}) + s[i+1:]
				if (Of(other) == want) != (other == s) {
					t.Fatalf("%q and %q have one sum", s, other)
				}
			}
		}
	}
}
