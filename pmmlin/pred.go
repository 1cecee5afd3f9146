package pmmlin

import (
	"strings"

	"hornbeam/api"
	"hornbeam/utf"
)

const predicates = "True False SimplePredicate SimpleSetPredicate CompoundPredicate"

func (r *reader) predicate(e int) api.Pred {
	switch r.name(e) {
	case "SimplePredicate":
		return r.simple(e)
	case "SimpleSetPredicate":
		return r.set(e)
	case "CompoundPredicate":
		return r.compound(e)
	case "False":
		r.empty(e)
		return api.Pred{Op: api.False}
	}
	r.empty(e)
	return api.Pred{Op: api.True}
}

// asked tells the number and the kind of the field that a predicate asks.
func (r *reader) asked(e int) (int, int) {
	name, ok := r.attr(e, "field")
	field, known := r.active[name]
	if !ok || !known {
		r.fail(api.ErrDoc, e)
		return 0, api.Continuous
	}
	return field, r.model.Fields[field].Kind
}

func (r *reader) simple(e int) api.Pred {
	field, kind := r.asked(e)
	op, ok := r.choose(e, "operator", "", "lessThan", "lessOrEqual", "equal", "notEqual", "greaterOrEqual", "greaterThan", "isMissing", "isNotMissing")
	if !ok {
		r.fail(api.ErrDoc, e)
	}
	p := api.Pred{Op: api.Less + op, Field: field}
	if p.Op <= api.Great {
		text, ok := r.attr(e, "value")
		if !ok {
			r.fail(api.ErrDoc, e)
		}
		p.Values = []api.Value{r.value(e, text, kind)}
	}
	r.empty(e)
	return p
}

func (r *reader) set(e int) api.Pred {
	field, kind := r.asked(e)
	op, ok := r.choose(e, "booleanOperator", "", "isIn", "isNotIn")
	if !ok {
		r.fail(api.ErrDoc, e)
	}
	p := api.Pred{Op: api.In + op, Field: field}
	for kid := range r.kids(e, one("Array")) {
		words, ok := Array(r.doc.Elems[kid].Text)
		if !ok {
			r.fail(api.ErrDoc, kid)
		}
		for _, word := range words {
			p.Values = append(p.Values, r.value(kid, word, kind))
		}
		r.empty(kid)
	}
	return p
}

func (r *reader) compound(e int) api.Pred {
	op, ok := r.choose(e, "booleanOperator", "", "and", "or", "xor", "surrogate")
	if !ok {
		r.fail(api.ErrDoc, e)
	}
	p := api.Pred{Op: api.And + op}
	for kid := range r.kids(e, many(predicates)) {
		p.Kids = append(p.Kids, r.predicate(kid))
	}
	return p
}

// Array tells the words of an array.
func Array(s string) ([]string, bool) {
	var out []string
cutting:
	for at := 0; at < len(s); {
		switch {
		case utf.Space(int(s[at])):
			at++
			continue cutting
		case s[at] == '"':
			word, size, ok := quoted(s[at:])
			at += size
			if !ok || at < len(s) && !utf.Space(int(s[at])) {
				return nil, false
			}
			out = append(out, word)
		default:
			size := bare(s[at:])
			out = append(out, s[at:at+size])
			at += size
		}
	}
	return out, true
}

// bare tells how many bytes there are ahead of a blank.
func bare(s string) int {
	for i := range len(s) {
		if utf.Space(int(s[i])) {
			return i
		}
	}
	return len(s)
}

// quoted tells the word at the front that begins with a quote, and how many bytes it has there.
func quoted(s string) (string, int, bool) {
	var word strings.Builder
	for i := 1; i < len(s); i++ {
		switch {
		case s[i] == '"':
			return word.String(), i + 1, true
		case s[i] == '\\' && i+1 < len(s):
			i++
		}
		word.WriteByte(s[i])
	}
	return "", 0, false
}
