package onnx

import (
	"hornbeam/api"
	"hornbeam/ieee"
)

const (
	maxTargets = 20
	beyond     = 1 << 32 // no pattern of a binary32 number is so great
)

// key names a node: its tree, and its number in it.
type key struct{ tree, node int }

// Check tells what may not be.
func Check(e api.Ensemble) (string, bool) {
	switch {
	case !maySize(e):
		return "size", false
	case !isAggregate(e.Aggregate):
		return "aggregate", false
	case !isPost(e.Post):
		return "post", false
	case !mayBase(e):
		return "base", false
	}
	places, ok := number(e)
	switch {
	case !ok:
		return "number", false
	case !mayModes(e):
		return "mode", false
	case !mayFeatures(e):
		return "feature", false
	case !mayValues(e):
		return "value", false
	case !mayKids(e, places):
		return "kid", false
	case !isForest(e, places):
		return "forest", false
	case !mayLeaves(e, places):
		return "leaf", false
	case !mayWeights(e):
		return "weight", false
	}
	return "", true
}

func maySize(e api.Ensemble) bool {
	switch {
	case e.Features < 0 || e.Features > api.MaxFields, e.Targets < 1 || e.Targets > maxTargets:
		return false
	case len(e.Nodes) == 0 || len(e.Nodes) > api.MaxNodes, len(e.Leaves) > api.MaxNodes:
		return false
	}
	return len(Trees(e)) <= api.MaxTrees
}

func isAggregate(s string) bool {
	switch s {
	case "SUM", "AVERAGE", "MIN", "MAX":
		return true
	}
	return false
}

func isPost(s string) bool {
	switch s {
	case "NONE", "SOFTMAX", "LOGISTIC", "SOFTMAX_ZERO", "PROBIT":
		return true
	}
	return false
}

// isFinite tells whether a pattern is one of a binary32 number.
func isFinite(bits uint64) bool {
	_, kind := ieee.Single().Decode(bits)
	return bits < beyond && kind == ieee.Finite
}

func mayBase(e api.Ensemble) bool {
	for _, bits := range e.Base {
		if !isFinite(bits) {
			return false
		}
	}
	return len(e.Base) == 0 || len(e.Base) == e.Targets
}

// number tells the places of all nodes; false, if one has no number, or that of another one.
func number(e api.Ensemble) (map[key]int, bool) {
	places := map[key]int{}
	for at, n := range e.Nodes {
		k := key{n.Tree, n.Node}
		if _, twice := places[k]; twice || n.Tree < 0 || n.Node < 0 {
			return nil, false
		}
		places[k] = at
	}
	return places, true
}

func mayModes(e api.Ensemble) bool {
	for _, n := range e.Nodes {
		if ModeName(n.Mode) == "" {
			return false
		}
	}
	return true
}

func mayFeatures(e api.Ensemble) bool {
	for _, n := range branches(e) {
		if n.Feature < 0 || n.Feature >= e.Features {
			return false
		}
	}
	return true
}

func mayValues(e api.Ensemble) bool {
	for _, n := range e.Nodes {
		if n.Value >= beyond || n.Mode != api.Leaf && !isFinite(n.Value) {
			return false
		}
	}
	return true
}

func mayKids(e api.Ensemble, places map[key]int) bool {
	for _, n := range branches(e) {
		_, isTrue := places[key{n.Tree, n.True}]
		_, isFalse := places[key{n.Tree, n.False}]
		if !isTrue || !isFalse || n.True == n.False {
			return false
		}
	}
	return true
}

// isForest asks an ensemble whose kids are all nodes.
func isForest(e api.Ensemble, places map[key]int) bool {
	isKid := make([]bool, len(e.Nodes))
	for _, n := range branches(e) {
		for _, kid := range []int{n.True, n.False} {
			at := places[key{n.Tree, kid}]
			if isKid[at] {
				return false
			}
			isKid[at] = true
		}
	}
	rooted := map[int]struct{}{}
	reached := 0
	for at, n := range e.Nodes {
		if isKid[at] {
			continue
		}
		if _, twice := rooted[n.Tree]; twice {
			return false
		}
		rooted[n.Tree] = struct{}{}
		count, ok := reach(e, places, at)
		if !ok {
			return false
		}
		reached += count
	}
	return reached == len(e.Nodes) // of a tree without a root nothing is reached
}

// reach tells how many nodes are reached from one on; false, if one stands too deep. None is the kid of two.
func reach(e api.Ensemble, places map[key]int, from int) (int, bool) {
	type spot struct{ at, depth int }
	stack := []spot{{from, 1}}
	count, ok := 0, true
walking:
	for len(stack) > 0 {
		s := stack[len(stack)-1]
		stack = stack[:len(stack)-1]
		if s.depth > api.MaxDepth {
			ok = false
			break walking
		}
		count++
		n := e.Nodes[s.at]
		if n.Mode == api.Leaf {
			continue walking
		}
		stack = append(stack, spot{places[key{n.Tree, n.True}], s.depth + 1}, spot{places[key{n.Tree, n.False}], s.depth + 1})
	}
	return count, ok
}

func mayLeaves(e api.Ensemble, places map[key]int) bool {
	for _, l := range e.Leaves {
		at, ok := places[key{l.Tree, l.Node}]
		if !ok || e.Nodes[at].Mode != api.Leaf || l.Target < 0 || l.Target >= e.Targets {
			return false
		}
	}
	return true
}

func mayWeights(e api.Ensemble) bool {
	for _, l := range e.Leaves {
		if !isFinite(l.Weight) {
			return false
		}
	}
	return true
}
