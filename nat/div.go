package nat

import "math/bits"

// DivMod divides.
func DivMod(a, b Nat) (Nat, Nat, bool) {
	switch {
	case b.Zero():
		return Nat{}, Nat{}, false
	case Cmp(a, b) < 0:
		return Nat{}, a, true
	case len(b.words) == 1:
		quotient, rest := divWord(a, b.words[0])
		return quotient, Of(rest), true
	}
	quotient, rest := divLong(a, b)
	return quotient, rest, true
}

func divWord(a Nat, by uint64) (Nat, uint64) {
	out := make([]uint64, len(a.words))
	var rest uint64
	for i := len(out) - 1; i >= 0; i-- {
		out[i], rest = bits.Div64(rest, a.words[i], by)
	}
	return trim(out), rest
}

// divLong is division by hand, a word a digit; b has two words or more, and a is not below it.
func divLong(a, b Nat) (Nat, Nat) {
	up := bits.LeadingZeros64(b.words[len(b.words)-1]) // with the highest bit set a guess is too great by 2 at most
	below := Shift(b, up).words
	above := make([]uint64, len(a.words)+1)
	copy(above, Shift(a, up).words)
	out := make([]uint64, len(above)-len(below))
	for i := len(out) - 1; i >= 0; i-- {
		part := above[i : i+len(below)+1]
		digit := guess(part, below)
		for borrow := takeProduct(part, below, digit); borrow > 0; digit-- {
			borrow -= giveBack(part, below)
		}
		out[i] = digit
	}
	return trim(out), Shift(trim(above), -up)
}

// guess tells a digit of the quotient, or one that is too great by 2 at most.
func guess(part, below []uint64) uint64 {
	n := len(below)
	if part[n] >= below[n-1] {
		return ^uint64(0)
	}
	digit, rest := bits.Div64(part[n], part[n-1], below[n-1])
	for {
		high, low := bits.Mul64(digit, below[n-2])
		if high < rest || high == rest && low <= part[n-2] {
			return digit
		}
		digit--
		more, over := bits.Add64(rest, below[n-1], 0)
		if over > 0 {
			return digit
		}
		rest = more
	}
}

// takeProduct takes below times digit from part; it tells 1 where that goes below 0 (part is then what a borrow leaves).
func takeProduct(part, below []uint64, digit uint64) uint64 {
	var carry, borrow uint64
	for i, w := range below {
		high, low := bits.Mul64(w, digit)
		low, over := bits.Add64(low, carry, 0)
		carry = high + over
		part[i], borrow = bits.Sub64(part[i], low, borrow)
	}
	last := len(below)
	part[last], borrow = bits.Sub64(part[last], carry, borrow)
	return borrow
}

// giveBack adds below to part; it tells 1 where that comes back to 0 or above.
func giveBack(part, below []uint64) uint64 {
	var carry uint64
	for i, w := range below {
		part[i], carry = bits.Add64(part[i], w, carry)
	}
	last := len(below)
	part[last], carry = bits.Add64(part[last], 0, carry)
	return carry
}
