// Package wide implements signed 128-bit integers whose arithmetic saturates
// (chapter 1 of the document).
package wide

import (
	"math"
	"math/bits"

	"horologe/api"
)

// Of returns n as a wide number.
func Of(n int64) api.Wide {
	return api.Wide{Hi: n >> 63, Lo: uint64(n)}
}

// Add returns a + b; it saturates.
func Add(a, b api.Wide) api.Wide {
	lo, carry := bits.Add64(a.Lo, b.Lo, 0)
	hi := a.Hi + b.Hi + int64(carry)
	// Only summands of the same sign can leave the range, and then the sum's sign wraps.
	if negative(a) == negative(b) && (hi < 0) != negative(a) {
		return bound(negative(a))
	}
	return api.Wide{Hi: hi, Lo: lo}
}

// Sub returns a - b; it saturates.
func Sub(a, b api.Wide) api.Wide {
	lo, borrow := bits.Sub64(a.Lo, b.Lo, 0)
	hi := a.Hi - b.Hi - int64(borrow)
	// Only operands of different signs can leave the range, and then the difference's sign wraps.
	if negative(a) != negative(b) && (hi < 0) != negative(a) {
		return bound(negative(a))
	}
	return api.Wide{Hi: hi, Lo: lo}
}

// Neg returns -a; it saturates.
func Neg(a api.Wide) api.Wide {
	return Sub(api.Wide{}, a)
}

// Abs returns the absolute value of a; it saturates.
func Abs(a api.Wide) api.Wide {
	if negative(a) {
		return Neg(a)
	}
	return a
}

// Cmp returns -1, 0 or 1 if a is less than, equal to or greater than b.
func Cmp(a, b api.Wide) int {
	if a == b {
		return 0
	}
	if a.Hi < b.Hi || a.Hi == b.Hi && a.Lo < b.Lo {
		return -1
	}
	return 1
}

// Mul returns the exact product of a and b.
func Mul(a, b int64) api.Wide {
	_, m := magnitude(Of(a))
	_, n := magnitude(Of(b))
	return signer((a < 0) != (b < 0))(bits.Mul64(m, n))
}

// Scale returns the product of a and n; it saturates.
func Scale(a api.Wide, n uint32) api.Wide {
	hi, lo := magnitude(a)
	carried, low := bits.Mul64(lo, uint64(n))
	above, high := bits.Mul64(hi, uint64(n))
	high, carry := bits.Add64(high, carried, 0)
	if above+carry != 0 {
		return bound(negative(a))
	}
	return signer(negative(a))(high, low)
}

// Half returns a divided by 2, rounded down.
func Half(a api.Wide) api.Wide {
	return api.Wide{Hi: a.Hi >> 1, Lo: uint64(a.Hi)<<63 | a.Lo>>1}
}

// Div returns a divided by n, rounded down, and the remainder; false if n is 0.
func Div(a api.Wide, n uint64) (q api.Wide, r uint64, ok bool) {
	if n == 0 {
		return api.Wide{}, 0, false
	}
	hi, lo := magnitude(a)
	high, rest := hi/n, hi%n
	low, r := bits.Div64(rest, lo, n)
	// A magnitude's quotient is rounded toward zero, which for a negative number is up.
	if negative(a) && r != 0 {
		var carry uint64
		low, carry = bits.Add64(low, 1, 0)
		high += carry
		r = n - r
	}
	return signer(negative(a))(high, low), r, true
}

// Clip returns the int64 that is nearest to a.
func Clip(a api.Wide) int64 {
	if n := int64(a.Lo); Of(n) == a {
		return n
	}
	if negative(a) {
		return math.MinInt64
	}
	return math.MaxInt64
}

// Root returns the greatest integer whose square is at most a, and 0 if a is negative.
func Root(a api.Wide) uint64 {
	if negative(a) {
		return 0
	}
	var root uint64
	for bit := uint64(1 << 63); bit != 0; bit >>= 1 {
		hi, lo := bits.Mul64(root|bit, root|bit)
		if hi < uint64(a.Hi) || hi == uint64(a.Hi) && lo <= a.Lo {
			root |= bit
		}
	}
	return root
}

// negative reports whether a is less than 0.
func negative(a api.Wide) bool {
	return a.Hi < 0
}

// bound returns the last number of the range, on the negative or the positive side.
func bound(below bool) api.Wide {
	if below {
		return api.Wide{Hi: math.MinInt64}
	}
	return api.Wide{Hi: math.MaxInt64, Lo: math.MaxUint64}
}

// magnitude returns the absolute value of a, without a sign: 2^127 has a place in it.
func magnitude(a api.Wide) (hi, lo uint64) {
	if !negative(a) {
		return uint64(a.Hi), a.Lo
	}
	lo, borrow := bits.Sub64(0, a.Lo, 0)
	hi, _ = bits.Sub64(0, uint64(a.Hi), borrow)
	return hi, lo
}

// signer returns a function that gives a magnitude its sign; the function saturates.
func signer(minus bool) func(hi, lo uint64) api.Wide {
	return func(hi, lo uint64) api.Wide {
		// From 2^127 on: the lower bound is the only such magnitude in the range.
		if hi > math.MaxInt64 {
			return bound(minus)
		}
		a := api.Wide{Hi: int64(hi), Lo: lo}
		if minus {
			return Neg(a)
		}
		return a
	}
}
