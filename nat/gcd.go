package nat

import "math/bits"

// Gcd tells the greatest common divisor.
func Gcd(a, b Nat) Nat {
	if a.Zero() {
		return b
	}
	if b.Zero() {
		return a
	}
	twosA, twosB := twos(a), twos(b)
	odd := gcdOdd(Shift(a, -twosA), Shift(b, -twosB))
	return shiftUp(odd, min(twosA, twosB))
}

// shiftUp multiplies by 2 to the by, however great that is.
func shiftUp(a Nat, by int) Nat {
	for ; by > maxShift; by -= maxShift {
		a = Shift(a, maxShift)
	}
	return Shift(a, by)
}

// twos tells how often 2 divides a number above 0. Fractions of binary numbers have hardly another divisor, so it is worth taking out first.
func twos(a Nat) int {
	n := 0
	for a.words[n] == 0 {
		n++
	}
	return n*wordBits + bits.TrailingZeros64(a.words[n])
}

func gcdOdd(a, b Nat) Nat {
	for len(a.words) > 1 || len(b.words) > 1 {
		if b.Zero() {
			return a
		}
		_, rest, _ := DivMod(a, b)
		a, b = b, rest
	}
	x, _ := a.Small()
	y, _ := b.Small()
	for y > 0 {
		x, y = y, x%y
	}
	return Of(x)
}
