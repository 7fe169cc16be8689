// Package span is layer 1: see shared/doc/01-span.md.
//
// It reckons with int64 and tells when an answer is none. No step of it goes
// round unseen: what may be too great is held against the ends, or reckoned
// in 64 bits without a sign, or in 128 bits.
package span

import (
	"math"
	"math/bits"
)

// Add is a sum.
func Add(a, b int64) (int64, bool) {
	if b > 0 && a > math.MaxInt64-b || b < 0 && a < math.MinInt64-b {
		return 0, false
	}
	return a + b, true
}

// Sub is a difference. It asks the ends itself, for -b is no int64 at the lower one.
func Sub(a, b int64) (int64, bool) {
	if b > 0 && a < math.MinInt64+b || b < 0 && a > math.MaxInt64+b {
		return 0, false
	}
	return a - b, true
}

// Mul is a product: of the sizes, with both signs.
func Mul(a, b int64) (int64, bool) {
	hi, lo := bits.Mul64(Abs(a), Abs(b))
	if hi != 0 {
		return 0, false
	}
	return signed(lo, (a < 0) != (b < 0))
}

// signed is the number of a size and a sign. Below 0 there is one size more than above it.
func signed(size uint64, below bool) (int64, bool) {
	if below {
		if size > 1<<63 {
			return 0, false
		}
		return int64(-size), true
	}
	if size > math.MaxInt64 {
		return 0, false
	}
	return int64(size), true
}

// Div is a quotient, rounded down.
func Div(a, b int64) (int64, bool) {
	q, rest, ok := cut(a, b)
	if ok && rest && (a < 0) != (b < 0) { // Go rounds towards 0: here that is up
		q--
	}
	return q, ok
}

// Up is a quotient, rounded up.
func Up(a, b int64) (int64, bool) {
	q, rest, ok := cut(a, b)
	if ok && rest && (a < 0) == (b < 0) { // Go rounds towards 0: here that is down
		q++
	}
	return q, ok
}

// cut is a quotient, rounded towards 0, and whether it leaves a rest. Where there
// is a rest b is neither 1 nor -1, so that q is far from the ends.
func cut(a, b int64) (q int64, rest, ok bool) {
	if b == 0 || a == math.MinInt64 && b == -1 {
		return 0, false, false
	}
	return a / b, a%b != 0, true
}

// Sum is the sum of all, reckoned in 128 bits: so many that those would not do can't come in.
func Sum(l ...int64) (int64, bool) {
	var hi, lo, carry uint64
	for _, x := range l {
		lo, carry = bits.Add64(lo, uint64(x), 0)
		hi, _ = bits.Add64(hi, uint64(x>>63), carry)
	}
	sum := int64(lo)
	if int64(hi) != sum>>63 { // the upper half says more than sum's sign
		return 0, false
	}
	return sum, true
}

// Mid is half a sum: the bits that both have, and half of those that one has.
func Mid(a, b int64) int64 {
	return a&b + (a^b)>>1
}

// Abs is a number without its sign. -a is no int64 at the lower end, so the sign is taken off behind the turn to uint64.
func Abs(a int64) uint64 {
	if a < 0 {
		return -uint64(a)
	}
	return uint64(a)
}

// Gap is how far two numbers are apart: modulo 2^64 the greater one less the other is that, whatever their signs.
func Gap(a, b int64) uint64 {
	if a < b {
		return uint64(b) - uint64(a)
	}
	return uint64(a) - uint64(b)
}

// Clamp keeps a number within bounds. Where these lie the wrong way round, lo is asked first.
func Clamp(x, lo, hi int64) int64 {
	if x < lo {
		return lo
	}
	if x > hi {
		return hi
	}
	return x
}
