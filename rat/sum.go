package rat

import (
	"hornbeam/api"
	"hornbeam/nat"
)

// Add adds. What the denominators have in common is taken out first: nothing else can be common to the whole, and numbers stay small.
func Add(a, b Rat) Rat {
	common := nat.Gcd(a.Den(), b.Den())
	denA, denB := over(a.Den(), common), over(b.Den(), common)
	neg, num := join(a.neg, nat.Mul(a.num, denB), b.neg, nat.Mul(b.num, denA))
	rest := nat.Gcd(num, common)
	return made(neg, over(num, rest), nat.Mul(denA, over(b.Den(), rest)))
}

// join adds two numbers, each of which is below 0 if neg; it tells the same of the sum.
func join(negA bool, a nat.Nat, negB bool, b nat.Nat) (bool, nat.Nat) {
	if negA == negB {
		return negA, nat.Add(a, b)
	}
	if less, is := nat.Sub(a, b); is {
		return negA, less
	}
	less, _ := nat.Sub(b, a)
	return negB, less
}

// Sub takes away.
func Sub(a, b Rat) Rat { return Add(a, opposite(b)) }

func opposite(r Rat) Rat {
	r.neg = !r.neg && !r.num.Zero()
	return r
}

// Mul multiplies. A numerator may have something in common with the other one's denominator alone.
func Mul(a, b Rat) Rat {
	first, second := nat.Gcd(a.num, b.Den()), nat.Gcd(b.num, a.Den())
	num := nat.Mul(over(a.num, first), over(b.num, second))
	return made(a.neg != b.neg, num, nat.Mul(over(a.Den(), second), over(b.Den(), first)))
}

// Div divides.
func Div(a, b Rat) (Rat, api.Code) {
	if b.num.Zero() {
		return Rat{}, api.ErrZero
	}
	return Mul(a, made(b.neg, b.Den(), b.num)), api.OK
}

// Floor tells the greatest whole number that is not above.
func Floor(a Rat) Rat {
	if a.Whole() {
		return a
	}
	whole, _, _ := nat.DivMod(a.num, a.divide)
	if a.neg {
		return Rat{neg: true, num: nat.Add(whole, nat.Of(1))}
	}
	return Rat{num: whole}
}

// Ceil tells the least whole number that is not below.
func Ceil(a Rat) Rat { return opposite(Floor(opposite(a))) }

// Round tells the nearest whole number.
func Round(a Rat) Rat {
	if a.neg {
		return opposite(Round(opposite(a)))
	}
	twice := nat.Add(nat.Shift(a.num, 1), a.Den())
	whole, _, _ := nat.DivMod(twice, nat.Shift(a.Den(), 1))
	return Rat{num: whole}
}

// Sum adds what an iterator tells.
func Sum(seq func(yield func(Rat) bool)) Rat {
	var sum Rat
	if seq == nil {
		return sum
	}
	for r := range seq {
		sum = Add(sum, r)
	}
	return sum
}

// Least tells the least one.
func Least(seq func(yield func(Rat) bool)) (Rat, bool) { return first(seq, -1) }

// Most tells the greatest one.
func Most(seq func(yield func(Rat) bool)) (Rat, bool) { return first(seq, 1) }

// first tells the one ahead of all others; side says how Cmp tells that.
func first(seq func(yield func(Rat) bool), side int) (Rat, bool) {
	var best Rat
	found := false
	if seq == nil {
		return best, found
	}
	for r := range seq {
		if !found || Cmp(r, best) == side {
			best, found = r, true
		}
	}
	return best, found
}
