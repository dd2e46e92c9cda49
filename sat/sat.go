// Package sat is layer 1: arithmetic that saturates at the limits of 32 bits.
// See shared/doc/01-sat.md.
package sat

import "scrim/api"

// The limits of 32 bits.
const (
	Most  = 2147483647
	Least = -2147483648
)

// Sat: x, limited to Least to Most.
func Sat(x int) int { return Clip(x, Least, Most) }

// Add: the sum. Numbers are limited beforehand, here and below, so that the
// result before Sat always fits into 64 bits.
func Add(a, b int) int { return Sat(Sat(a) + Sat(b)) }

// Sub: the difference.
func Sub(a, b int) int { return Sat(Sat(a) - Sat(b)) }

// Mul: the product.
func Mul(a, b int) int { return Sat(Sat(a) * Sat(b)) }

// Neg: 0 minus a.
func Neg(a int) int { return Sub(0, a) }

// Div: the quotient, rounded down; 0 if b is 0.
func Div(a, b int) int {
	x, y := Sat(a), Sat(b)
	if y == 0 {
		return 0
	}
	return Sat(floor(x, y))
}

// Mod: what is left of a; 0 if b is 0. It uses the quotient before Sat, for
// otherwise -1 would be left of Least by -1.
func Mod(a, b int) int {
	x, y := Sat(a), Sat(b)
	if y == 0 {
		return 0
	}
	return x - y*floor(x, y)
}

// floor exists because the language's own division rounds towards 0.
func floor(x, y int) int {
	q := x / y
	if x%y != 0 && (x < 0) != (y < 0) {
		q--
	}
	return q
}

// Sum: each element is Added in order, so that the order matters once
// something saturates.
func Sum(l ...int) int {
	sum := 0
	for _, x := range l {
		sum = Add(sum, x)
	}
	return sum
}

// Clip: x, limited to lo to hi. The lower limit is applied last, for it wins
// if hi is less than lo.
func Clip(x, lo, hi int) int { return max(min(x, hi), lo) }

// Later: the clock d ticks after now. Both are limited before they are added,
// for their sum might exceed 64 bits.
func Later(now, d int) int {
	return min(clock(now)+clock(d), api.MaxClock)
}

func clock(x int) int { return Clip(x, 0, api.MaxClock) }
