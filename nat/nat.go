// Package nat has natural numbers of any size.
package nat

import (
	"math/bits"
	"strconv"
	"strings"

	"hornbeam/api"
)

// Nat is a natural number. Its words are never written again once it is told.
type Nat struct {
	words []uint64 // the lowest first; the last one is not 0, so 0 has none
}

const (
	wordBits  = 64
	partSize  = 19                   // decimal digits that surely go into a word
	partBase  = 10000000000000000000 // 10 to the partSize
	maxPower  = 5000                 // the greatest exponent of Pow
	maxBinary = 10000                // binary digits of a power
	maxShift  = 20000
)

// Of tells a small one.
func Of(v uint64) Nat { return trim([]uint64{v}) }

// Parse tells the number of digits.
func Parse(s string) (Nat, api.Code) {
	if !wellFormed(s) {
		return Nat{}, api.ErrForm
	}
	if len(s) > api.MaxDigits {
		return Nat{}, api.ErrLimit
	}
	words := make([]uint64, 0, len(s)/partSize+1)
	for len(s) > 0 {
		part := (len(s)-1)%partSize + 1 // the first part may be shorter, the others are whole
		words = scaleUp(words, partBase, partValue(s[:part]))
		s = s[part:]
	}
	return trim(words), api.OK
}

func wellFormed(s string) bool {
	if s == "" || s[0] == '0' && len(s) > 1 {
		return false
	}
	for i := range len(s) {
		if s[i] < '0' || s[i] > '9' {
			return false
		}
	}
	return true
}

func partValue(s string) uint64 {
	var v uint64
	for i := range len(s) {
		v = v*10 + uint64(s[i]-'0')
	}
	return v
}

// scaleUp multiplies words by a word and adds one, in place.
func scaleUp(words []uint64, by, carry uint64) []uint64 {
	for i, w := range words {
		high, low := bits.Mul64(w, by)
		sum, over := bits.Add64(low, carry, 0)
		words[i], carry = sum, high+over
	}
	if carry > 0 {
		words = append(words, carry)
	}
	return words
}

// trim makes a number of words, which it keeps.
func trim(words []uint64) Nat {
	n := len(words)
	for n > 0 && words[n-1] == 0 {
		n--
	}
	if n == 0 {
		return Nat{}
	}
	return Nat{words[:n]}
}

// Text tells a number's digits.
func (n Nat) Text() string {
	left := append([]uint64(nil), n.words...)
	var parts []uint64
	for len(left) > 0 {
		var part uint64
		for i := len(left) - 1; i >= 0; i-- {
			left[i], part = bits.Div64(part, left[i], partBase)
		}
		parts = append(parts, part)
		left = trim(left).words
	}
	if len(parts) == 0 {
		return "0"
	}
	var out strings.Builder
	for i := len(parts) - 1; i >= 0; i-- {
		digits := strconv.FormatUint(parts[i], 10)
		if out.Len() > 0 {
			out.WriteString(strings.Repeat("0", partSize-len(digits)))
		}
		out.WriteString(digits)
	}
	return out.String()
}

// Small tells a number that is below 2^64.
func (n Nat) Small() (uint64, bool) {
	switch len(n.words) {
	case 0:
		return 0, true
	case 1:
		return n.words[0], true
	}
	return 0, false
}

// Zero tells whether a number is 0.
func (n Nat) Zero() bool { return len(n.words) == 0 }

// Bits tells how many binary digits it has.
func (n Nat) Bits() int {
	last := len(n.words) - 1
	if last < 0 {
		return 0
	}
	return last*wordBits + bits.Len64(n.words[last])
}

// Digits tells how many decimal digits it has.
func (n Nat) Digits() int { return len(n.Text()) }

// Cmp tells which one is greater.
func Cmp(a, b Nat) int {
	if len(a.words) != len(b.words) {
		return order(len(a.words) < len(b.words))
	}
	for i := len(a.words) - 1; i >= 0; i-- {
		if a.words[i] != b.words[i] {
			return order(a.words[i] < b.words[i])
		}
	}
	return 0
}

func order(less bool) int {
	if less {
		return -1
	}
	return 1
}

// Add adds.
func Add(a, b Nat) Nat {
	if len(a.words) < len(b.words) {
		a, b = b, a
	}
	out := append(make([]uint64, 0, len(a.words)+1), a.words...)
	var carry uint64
	for i, w := range b.words {
		out[i], carry = bits.Add64(out[i], w, carry)
	}
carrying:
	for i := len(b.words); ; i++ {
		switch {
		case carry == 0:
			break carrying
		case i == len(out):
			out = append(out, carry)
			break carrying
		}
		out[i], carry = bits.Add64(out[i], 0, carry)
	}
	return trim(out)
}

// Sub takes away.
func Sub(a, b Nat) (Nat, bool) {
	if Cmp(a, b) < 0 {
		return Nat{}, false
	}
	out := append([]uint64(nil), a.words...)
	var borrow uint64
	for i, w := range b.words {
		out[i], borrow = bits.Sub64(out[i], w, borrow)
	}
borrowing:
	for i := len(b.words); i < len(out); i++ {
		if borrow == 0 {
			break borrowing
		}
		out[i], borrow = bits.Sub64(out[i], 0, borrow)
	}
	return trim(out), true
}

// Mul multiplies.
func Mul(a, b Nat) Nat {
	if a.Zero() || b.Zero() {
		return Nat{}
	}
	out := make([]uint64, len(a.words)+len(b.words))
	for i, w := range a.words {
		out[i+len(b.words)] = addProduct(out[i:i+len(b.words)], b.words, w)
	}
	return trim(out)
}

// addProduct adds words times by to sum, which is as long; it tells the carry.
func addProduct(sum, words []uint64, by uint64) uint64 {
	var carry uint64
	for i, w := range words {
		high, low := bits.Mul64(w, by)
		low, over := bits.Add64(low, carry, 0)
		high += over
		sum[i], over = bits.Add64(sum[i], low, 0)
		carry = high + over
	}
	return carry
}

// Pow tells a power.
func Pow(a Nat, e int) (Nat, api.Code) {
	if e < 0 {
		return Nat{}, api.ErrArg
	}
	if e > maxPower || e > 0 && a.Bits() > 1 && (a.Bits()-1) > (maxBinary-1)/e {
		return Nat{}, api.ErrLimit
	}
	out := Of(1)
	for bit := bits.Len(uint(e)) - 1; bit >= 0; bit-- {
		out = Mul(out, out)
		if e>>bit&1 == 1 {
			out = Mul(out, a)
		}
	}
	if out.Bits() > maxBinary {
		return Nat{}, api.ErrLimit
	}
	return out, api.OK
}

// Shift multiplies by a power of 2.
func Shift(a Nat, by int) Nat {
	switch {
	case by < 0:
		return shiftDown(a, by)
	case a.Zero():
		return Nat{}
	}
	by = min(by, maxShift)
	whole, part := by/wordBits, uint(by%wordBits)
	out := make([]uint64, len(a.words)+whole+1)
	for i, w := range a.words {
		out[i+whole] |= w << part
		out[i+whole+1] = w >> (wordBits - part) // a shift by all 64 bits leaves 0
	}
	return trim(out)
}

// shiftDown tells the whole quotient by 2 to the -by; by is below 0.
func shiftDown(a Nat, by int) Nat {
	if by <= -a.Bits() {
		return Nat{}
	}
	whole, part := -by/wordBits, uint(-by%wordBits)
	out := make([]uint64, len(a.words)-whole)
	for i := range out {
		out[i] = a.words[i+whole] >> part
		if i+whole+1 < len(a.words) {
			out[i] |= a.words[i+whole+1] << (wordBits - part)
		}
	}
	return trim(out)
}

// Sum adds what an iterator tells.
func Sum(seq func(yield func(Nat) bool)) Nat {
	var sum Nat
	if seq == nil {
		return sum
	}
	for n := range seq {
		sum = Add(sum, n)
	}
	return sum
}

// Halves tells a number, its half, and so on.
func Halves(a Nat) func(yield func(Nat) bool) {
	return func(yield func(Nat) bool) {
		for n := a; !n.Zero(); n = Shift(n, -1) {
			if !yield(n) {
				return
			}
		}
	}
}
