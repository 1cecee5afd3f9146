// Package clone copies plain things whole, so that nothing that is told shares memory with what was handed in.
package clone

import (
	"slices"

	"hornbeam/api"
)

// Pred copies a predicate and all within it.
func Pred(p api.Pred) api.Pred {
	p.Values = slices.Clone(p.Values)
	if len(p.Kids) == 0 {
		p.Kids = nil
		return p
	}
	kids := make([]api.Pred, len(p.Kids))
	for i, kid := range p.Kids {
		kids[i] = Pred(kid)
	}
	p.Kids = kids
	return p
}

// Node copies a node.
func Node(n api.Node) api.Node {
	n.Pred = Pred(n.Pred)
	n.Kids = slices.Clone(n.Kids)
	return n
}

// Tree copies a tree.
func Tree(t api.Tree) api.Tree {
	nodes := make([]api.Node, len(t.Nodes))
	for i, n := range t.Nodes {
		nodes[i] = Node(n)
	}
	t.Nodes = nodes
	return t
}

// Segments copies a list of segments.
func Segments(l []api.Segment) []api.Segment {
	out := make([]api.Segment, len(l))
	for i, s := range l {
		out[i] = api.Segment{Pred: Pred(s.Pred), Weight: s.Weight, Tree: Tree(s.Tree)}
	}
	return out
}

// Fields copies a list of fields.
func Fields(l []api.Field) []api.Field {
	out := slices.Clone(l)
	for i := range out {
		out[i].Values = slices.Clone(out[i].Values)
	}
	return out
}

// Model copies a model.
func Model(m api.Model) api.Model {
	m.Fields = Fields(m.Fields)
	m.Segments = Segments(m.Segments)
	return m
}
