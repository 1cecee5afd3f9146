package logic

import (
	"hornbeam/api"
	"hornbeam/rat"
	"hornbeam/value"
)

func truth(is bool) int {
	if is {
		return api.Yes
	}
	return api.No
}

func known(a int) bool { return a == api.Yes || a == api.No }

// Eval tells a predicate's truth.
func Eval(p api.Pred, row []api.Value) int {
	switch {
	case p.Op == api.True:
		return api.Yes
	case p.Op == api.False:
		return api.No
	case isComparison(p.Op):
		return compare(p, row)
	case isSet(p.Op):
		return among(p, row)
	case p.Op == api.IsMissing:
		return truth(of(p.Field, row).Kind == api.Missing)
	case p.Op == api.IsThere:
		return truth(of(p.Field, row).Kind != api.Missing)
	case p.Op == api.And:
		return And(each(p.Kids, row)...)
	case p.Op == api.Or:
		return Or(each(p.Kids, row)...)
	case p.Op == api.Xor:
		return Xor(each(p.Kids, row)...)
	case p.Op == api.Surrogate:
		return First(each(p.Kids, row)...)
	}
	return api.Unknown
}

func each(kids []api.Pred, row []api.Value) []int {
	out := make([]int, len(kids))
	for i, kid := range kids {
		out[i] = Eval(kid, row)
	}
	return out
}

// of tells a field's value: Missing where there is none that may be.
func of(field int, row []api.Value) api.Value {
	if field < 0 || field >= len(row) || !value.Valid(row[field]) {
		return api.Value{}
	}
	return row[field]
}

// operand is one side of a comparison, read once.
type operand struct {
	kind int
	num  rat.Rat
	cat  string
}

// read tells the operand of a value; one that is not valid is Missing.
func read(v api.Value) operand {
	if num, ok := value.Num(v); ok {
		return operand{kind: api.Number, num: num}
	}
	if v.Kind == api.Category && value.Valid(v) {
		return operand{kind: api.Category, cat: v.Cat}
	}
	return operand{kind: api.Missing}
}

func compare(p api.Pred, row []api.Value) int {
	if p.Field < 0 || p.Field >= len(row) || len(p.Values) == 0 {
		return api.Unknown
	}
	v := read(row[p.Field])
	if v.kind == api.Missing {
		return api.Unknown
	}
	w := read(p.Values[0])
	switch {
	case v.kind != w.kind:
		return truth(p.Op == api.NotEqual)
	case v.kind == api.Category:
		return truth(p.Op == api.Equal && v.cat == w.cat || p.Op == api.NotEqual && v.cat != w.cat)
	}
	return truth(stands(p.Op, rat.Cmp(v.num, w.num)))
}

// stands tells whether a comparison is so where its sides are in an order.
func stands(op, order int) bool {
	switch op {
	case api.Less:
		return order < 0
	case api.LessEq:
		return order <= 0
	case api.Equal:
		return order == 0
	case api.NotEqual:
		return order != 0
	case api.GreatEq:
		return order >= 0
	}
	return order > 0
}

func among(p api.Pred, row []api.Value) int {
	v := of(p.Field, row)
	if v.Kind == api.Missing {
		return api.Unknown
	}
	found := false
searching:
	for _, w := range p.Values {
		if value.Same(v, w) {
			found = true
			break searching
		}
	}
	return truth(found == (p.Op == api.In))
}

// Not tells the other truth.
func Not(a int) int {
	if !known(a) {
		return api.Unknown
	}
	return truth(a == api.No)
}

// And tells whether all are true.
func And(l ...int) int { return ruled(api.No, l) }

// Or tells whether one is true.
func Or(l ...int) int { return ruled(api.Yes, l) }

// ruled tells the truth that rules, if one is it; else Unknown, if one is; else the other one.
func ruled(by int, l []int) int {
	out := Not(by)
searching:
	for _, a := range l {
		switch {
		case a == by:
			out = by
			break searching
		case !known(a):
			out = api.Unknown
		}
	}
	return out
}

// Xor tells whether an odd number is true.
func Xor(l ...int) int {
	odd := false
	for _, a := range l {
		if !known(a) {
			return api.Unknown
		}
		odd = odd != (a == api.Yes)
	}
	return truth(odd)
}

// First tells the first one that is known.
func First(l ...int) int {
	for _, a := range l {
		if known(a) {
			return a
		}
	}
	return api.Unknown
}
