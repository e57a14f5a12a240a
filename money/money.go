// Package money is layer 01: see shared/doc/01-money.md.
package money

import (
	"math"
	"math/bits"
	"strconv"
	"strings"

	"compline/api"
)

// hundred is how many minor units a whole one has.
const hundred = 100

// longest is how many bytes the longest text of an amount has.
const longest = len("-92233720368547758.08")

// Add is a sum.
func Add(a, b int64) (int64, api.Errno) {
	s := a + b
	// Only two amounts on one side of 0 can leave the range, and then the sum wraps round to the other side.
	if (a < 0) == (b < 0) && (s < 0) != (a < 0) {
		return 0, api.ErrOver
	}
	return s, api.OK
}

// Sub is a difference.
func Sub(a, b int64) (int64, api.Errno) {
	d := a - b
	// Only amounts on both sides of 0 can leave the range, and then the difference wraps round to the side of b.
	if (a < 0) != (b < 0) && (d < 0) != (a < 0) {
		return 0, api.ErrOver
	}
	return d, api.OK
}

// Size is how far an amount is from 0.
func Size(a int64) uint64 {
	if a < 0 {
		return -uint64(a)
	}
	return uint64(a)
}

// Mul is a product.
func Mul(a, b int64) (int64, api.Errno) {
	hi, lo := bits.Mul64(Size(a), Size(b))
	if hi != 0 {
		return 0, api.ErrOver
	}
	return signed(lo, (a < 0) != (b < 0))
}

// signed is the amount that is so far from 0, on the side below it or on that above.
func signed(size uint64, below bool) (int64, api.Errno) {
	if below {
		if size > 1<<63 {
			return 0, api.ErrOver
		}
		// 2^63 itself wraps round to -2^63, which is what it is to be.
		return -int64(size), api.OK
	}
	if size > math.MaxInt64 {
		return 0, api.ErrOver
	}
	return int64(size), api.OK
}

// Neg is what is as far on the other side of 0.
func Neg(a int64) (int64, api.Errno) {
	return Sub(0, a)
}

// Sum is the sum of all.
func Sum(l []int64) (int64, api.Errno) {
	// Two words hold any sum on the way, so that only the last one is judged, and the order does not show.
	var hi, lo, carry uint64
	put := func(a int64) {
		lo, carry = bits.Add64(lo, uint64(a), 0)
		hi, _ = bits.Add64(hi, upper(a), carry)
	}
	for _, a := range l {
		put(a)
	}
	n := int64(lo)
	if hi != upper(n) {
		return 0, api.ErrOver
	}
	return n, api.OK
}

// upper is the upper one of the two words in which an amount stands: its sign, in every bit.
func upper(a int64) uint64 {
	return uint64(a >> 63)
}

// Least is the lesser one.
func Least(a, b int64) int64 {
	return min(a, b)
}

// Over is by how much an amount is above another one.
func Over(a, b int64) int64 {
	if a <= b {
		return 0
	}
	d, e := Sub(a, b)
	if e != api.OK {
		return math.MaxInt64
	}
	return d
}

// Text is an amount's text.
func Text(a int64) string {
	size := Size(a)
	whole, minor := size/hundred, size%hundred
	return join(sign(a), digits(whole), ".", digits(minor/10), digits(minor%10))
}

// sign is what stands ahead of an amount's digits.
func sign(a int64) string {
	if a < 0 {
		return "-"
	}
	return ""
}

// digits is a number in decimal digits.
func digits(n uint64) string {
	return strconv.FormatUint(n, 10)
}

// join puts texts together.
func join(l ...string) string {
	return strings.Join(l, "")
}

// Parse is the amount of a text.
func Parse(s string) (int64, api.Errno) {
	// Ahead of all else, so that a very long text is not copied.
	if len(s) > longest {
		return 0, api.ErrForm
	}
	whole, minor, _ := strings.Cut(s, ".")
	a, err := strconv.ParseInt(join(whole, minor), 10, 64)
	// Each amount has one text: whatever else would read as the same number (no dot, needless zeros, a plus, -0.00) is none.
	if err != nil || Text(a) != s {
		return 0, api.ErrForm
	}
	return a, api.OK
}
