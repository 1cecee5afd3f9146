package rat

import (
	"hornbeam/api"
	"hornbeam/nat"
)

// Add adds.
func Add(a, b Rat) Rat {
	if nat.Cmp(a.divide, b.divide) == 0 {
		return join(a.neg, a.num, b.neg, b.num, a.Den())
	}
	return join(a.neg, times(a.num, b.divide), b.neg, times(b.num, a.divide), times(a.Den(), b.divide))
}

// join adds two numerators over one denominator.
func join(negA bool, a nat.Nat, negB bool, b, den nat.Nat) Rat {
	if negA == negB {
		return lowest(negA, nat.Add(a, b), den)
	}
	if less, is := nat.Sub(a, b); is {
		return lowest(negA, less, den)
	}
	less, _ := nat.Sub(b, a)
	return lowest(negB, less, den)
}

// Sub takes away.
func Sub(a, b Rat) Rat { return Add(a, opposite(b)) }

func opposite(r Rat) Rat {
	r.neg = !r.neg && !r.num.Zero()
	return r
}

// Mul multiplies.
func Mul(a, b Rat) Rat {
	return lowest(a.neg != b.neg, nat.Mul(a.num, b.num), times(a.Den(), b.divide))
}

// Div divides.
func Div(a, b Rat) (Rat, api.Code) {
	return Make(a.neg != b.neg, times(a.num, b.divide), times(b.num, a.divide))
}

// Floor tells the greatest whole number that is not above.
func Floor(a Rat) Rat {
	if a.Whole() {
		return a
	}
	whole, _, _ := nat.DivMod(a.num, a.divide)
	if a.neg {
		return Rat{neg: true, num: nat.Add(whole, nat.Of(1))}
	}
	return Rat{num: whole}
}

// Ceil tells the least whole number that is not below.
func Ceil(a Rat) Rat { return opposite(Floor(opposite(a))) }

// Round tells the nearest whole number.
func Round(a Rat) Rat {
	if a.neg {
		return opposite(Round(opposite(a)))
	}
	twice := nat.Add(nat.Shift(a.num, 1), a.Den())
	whole, _, _ := nat.DivMod(twice, nat.Shift(a.Den(), 1))
	return Rat{num: whole}
}

// Sum adds what an iterator tells.
func Sum(seq func(yield func(Rat) bool)) Rat {
	var sum Rat
	if seq == nil {
		return sum
	}
	for r := range seq {
		sum = Add(sum, r)
	}
	return sum
}

// Least tells the least one.
func Least(seq func(yield func(Rat) bool)) (Rat, bool) { return first(seq, -1) }

// Most tells the greatest one.
func Most(seq func(yield func(Rat) bool)) (Rat, bool) { return first(seq, 1) }

// first tells the one ahead of all others; side says how Cmp tells that.
func first(seq func(yield func(Rat) bool), side int) (Rat, bool) {
	var best Rat
	found := false
	if seq == nil {
		return best, found
	}
	for r := range seq {
		if !found || Cmp(r, best) == side {
			best, found = r, true
		}
	}
	return best, found
}
