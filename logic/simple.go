package logic

import (
	"slices"

	"hornbeam/api"
	"hornbeam/clone"
)

// Simple tells a simpler one of the same truth.
func Simple(p api.Pred) api.Pred {
	switch p.Op {
	case api.And:
		return simpleJunction(p, api.True, api.False)
	case api.Or:
		return simpleJunction(p, api.False, api.True)
	case api.Xor:
		return simpleXor(p)
	case api.Surrogate:
		return simpleSurrogate(p)
	}
	return clone.Pred(p)
}

// alone copies a predicate but for its kids.
func alone(p api.Pred) api.Pred {
	return api.Pred{Op: p.Op, Field: p.Field, Values: slices.Clone(p.Values)}
}

// simpleJunction leaves out idle kids; one that rules decides the whole.
func simpleJunction(p api.Pred, idle, rules int) api.Pred {
	out := alone(p)
	for _, kid := range p.Kids {
		kid = Simple(kid)
		switch kid.Op {
		case rules:
			return api.Pred{Op: rules}
		case idle:
		default:
			out.Kids = append(out.Kids, kid)
		}
	}
	return unwrap(out, idle)
}

func simpleXor(p api.Pred) api.Pred {
	out := alone(p)
	for _, kid := range p.Kids {
		if kid = Simple(kid); kid.Op != api.False {
			out.Kids = append(out.Kids, kid)
		}
	}
	return unwrap(out, api.False)
}

// unwrap tells what is left of a predicate: of no kid an op, of one that one.
func unwrap(p api.Pred, none int) api.Pred {
	switch len(p.Kids) {
	case 0:
		return api.Pred{Op: none}
	case 1:
		return p.Kids[0]
	}
	return p
}

func simpleSurrogate(p api.Pred) api.Pred {
	out := alone(p)
keeping:
	for _, kid := range p.Kids {
		kid = Simple(kid)
		out.Kids = append(out.Kids, kid)
		if kid.Op == api.True || kid.Op == api.False {
			break keeping
		}
	}
	if len(out.Kids) == 1 {
		return out.Kids[0]
	}
	return out
}
