package lower

import (
	"hornbeam/api"
	"hornbeam/ieee"
	"hornbeam/ops"
	"hornbeam/tree"
	"hornbeam/value"
)

// foreign tells the first construct of a valid model that no ensemble has ("": there is none).
func foreign(m api.Model) string {
	switch {
	case hasForeignField(m.Fields):
		return "field"
	case m.Method != api.SumOf && m.Method != api.AverageOf && m.Method != api.MaxOf && m.Method != api.MinOf:
		return "method"
	case m.Target != api.Target{Constant: m.Target.Constant}:
		return "target"
	case hasForeignSegment(m.Segments):
		return "segment"
	case has(m, func(t api.Tree, n int) bool { return isInner(t, n) && t.Missing != api.ToDefault }):
		return "missing"
	case has(m, func(t api.Tree, n int) bool { return t.Nodes[0].Pred.Op != api.True }):
		return "root"
	case has(m, func(t api.Tree, n int) bool { return isInner(t, n) && !isSplit(t, t.Nodes[n].Kids) }):
		return "kids"
	case has(m, func(t api.Tree, n int) bool { return isInner(t, n) && t.Nodes[n].Default < 0 }):
		return "default"
	case has(m, func(t api.Tree, n int) bool { return !isInner(t, n) && t.Nodes[n].Score == "" }):
		return "score"
	}
	return ""
}

// inexact tells which number of a model is none of an ensemble ("": all are).
func inexact(m api.Model) string {
	switch {
	case !isPattern(m.Target.Constant):
		return "constant"
	case has(m, func(t api.Tree, n int) bool { return !isInner(t, n) && !isPattern(t.Nodes[n].Score) }):
		return "score"
	}
	return ""
}

// isPattern tells whether a number, if there is one, is a binary32 one.
func isPattern(text string) bool {
	_, ok := ieee.Single().Exact(number(text))
	return ok
}

func isInner(t api.Tree, n int) bool { return len(t.Nodes[n].Kids) > 0 }

// has tells whether something is so of a node of a model's trees.
func has(m api.Model, is func(t api.Tree, n int) bool) bool {
	found := false
searching:
	for _, s := range m.Segments {
		for n := range tree.Walk(s.Tree) {
			if is(s.Tree, n) {
				found = true
				break searching
			}
		}
	}
	return found
}

func hasForeignField(l []api.Field) bool {
	for _, f := range l {
		if f.Kind == api.Categorical || f.Replace.Kind != api.Missing {
			return true
		}
	}
	return false
}

func hasForeignSegment(l []api.Segment) bool {
	for _, s := range l {
		if s.Weight != "" || s.Pred.Op != api.True {
			return true
		}
	}
	return false
}

// isSplit tells whether Kids are two that compare one field with one value, each so where the other one is not.
func isSplit(t api.Tree, kids []int) bool {
	if len(kids) != 2 {
		return false
	}
	a, b := t.Nodes[kids[0]].Pred, t.Nodes[kids[1]].Pred
	return ops.Mode(a.Op) > 0 && b.Op == ops.Opposite(a.Op) && a.Field == b.Field && value.Same(a.Values[0], b.Values[0])
}
