// Package wide is layer 02: see shared/doc/02-wide.md.
package wide

import (
	"math/bits"

	"compline/api"
)

// Wide is a wide number.
type Wide struct {
	Hi, Lo uint64
}

// Mul is a product.
func Mul(a, b uint64) Wide {
	hi, lo := bits.Mul64(a, b)
	return Wide{Hi: hi, Lo: lo}
}

// Plus is a sum.
func Plus(a, b Wide) (Wide, api.Errno) {
	lo, carry := bits.Add64(a.Lo, b.Lo, 0)
	hi, carry := bits.Add64(a.Hi, b.Hi, carry)
	if carry != 0 {
		return Wide{}, api.ErrOver
	}
	return Wide{Hi: hi, Lo: lo}, api.OK
}

// Minus is a difference.
func Minus(a, b Wide) (Wide, api.Errno) {
	lo, borrow := bits.Sub64(a.Lo, b.Lo, 0)
	hi, borrow := bits.Sub64(a.Hi, b.Hi, borrow)
	if borrow != 0 {
		return Wide{}, api.ErrOver
	}
	return Wide{Hi: hi, Lo: lo}, api.OK
}

// Cmp compares two.
func Cmp(a, b Wide) int {
	if a == b {
		return 0
	}
	if a.Hi < b.Hi || a.Hi == b.Hi && a.Lo < b.Lo {
		return -1
	}
	return 1
}

// Div divides.
func Div(a Wide, c uint64) (q, r uint64, e api.Errno) {
	if c == 0 {
		return 0, 0, api.ErrArg
	}
	// c is in Hi times 2^64 at least 2^64 times just when it is not above Hi.
	if a.Hi >= c {
		return 0, 0, api.ErrOver
	}
	q, r = bits.Div64(a.Hi, a.Lo, c)
	return q, r, api.OK
}

// MulDiv divides a product.
func MulDiv(a, b, c uint64) (q, r uint64, e api.Errno) {
	return Div(Mul(a, b), c)
}

// Less compares two products.
func Less(a, b, c, d uint64) int {
	return Cmp(Mul(a, b), Mul(c, d))
}
