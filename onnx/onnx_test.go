package onnx

import (
	"fmt"
	"slices"
	"testing"

	"hornbeam/api"
)

const (
	one = 0x3f800000
	inf = 0x7f800000
	nan = 0x7fc00000
)

// sample has two trees: 5 asks feature 1 (and then feature 0), 2 is a leaf.
func sample() api.Ensemble {
	return api.Ensemble{
		Features: 2, Targets: 2, Aggregate: "SUM", Post: "NONE", Base: []uint64{one, 0},
		Nodes: []api.ENode{
			{Tree: 5, Node: 3, Mode: api.Leaf, Value: nan, Feature: 99, True: 7, False: 7},
			{Tree: 5, Node: 7, Mode: api.BranchLEQ, Feature: 1, Value: one, True: 3, False: 0},
			{Tree: 2, Node: 3, Mode: api.Leaf},
			{Tree: 5, Node: 0, Mode: api.BranchEQ, Feature: 0, Value: 1 << 31, True: 1, False: 2, Tracks: true},
			{Tree: 5, Node: 1, Mode: api.Leaf},
			{Tree: 5, Node: 2, Mode: api.Leaf},
		},
		Leaves: []api.ELeaf{{Tree: 5, Node: 3, Target: 0, Weight: one}, {Tree: 2, Node: 3, Target: 1, Weight: 2}, {Tree: 5, Node: 3, Target: 0, Weight: 3}, {Tree: 5, Node: 3, Target: 1, Weight: 4}},
	}
}

// leaves is an ensemble of trees that are leaves.
func leaves(n int) api.Ensemble {
	e := api.Ensemble{Targets: 1, Aggregate: "MAX", Post: "SOFTMAX_ZERO"}
	for i := range n {
		e.Nodes = append(e.Nodes, api.ENode{Tree: i, Mode: api.Leaf})
	}
	return e
}

// chain is a tree so deep.
func chain(depth int) api.Ensemble {
	e := api.Ensemble{Features: 1, Targets: 1, Aggregate: "MIN", Post: "PROBIT"}
	for i := range depth - 1 {
		e.Nodes = append(e.Nodes, api.ENode{Node: 2 * i, Mode: api.BranchGT, True: 2*i + 1, False: 2*i + 2}, api.ENode{Node: 2*i + 1, Mode: api.Leaf})
	}
	e.Nodes = append(e.Nodes, api.ENode{Node: 2 * (depth - 1), Mode: api.Leaf})
	return e
}

func TestP2201(t *testing.T) {
	many := func(e *api.Ensemble) { e.Leaves = make([]api.ELeaf, 2001) }
	for i, c := range []struct {
		change func(e *api.Ensemble)
		want   string
	}{
		{func(e *api.Ensemble) {}, ""}, {func(e *api.Ensemble) { *e = leaves(100) }, ""}, {func(e *api.Ensemble) { *e = chain(40) }, ""}, {func(e *api.Ensemble) { e.Base, e.Leaves = nil, nil }, ""}, {func(e *api.Ensemble) { e.Features = 40 }, ""},
		{func(e *api.Ensemble) { e.Features = -1 }, "size"}, {func(e *api.Ensemble) { e.Features = 41 }, "size"}, {func(e *api.Ensemble) { e.Targets = 0 }, "size"}, {func(e *api.Ensemble) { e.Targets = 21 }, "size"}, {func(e *api.Ensemble) { e.Nodes = nil }, "size"}, {many, "size"}, {func(e *api.Ensemble) { *e = leaves(101) }, "size"}, {func(e *api.Ensemble) { *e = chain(1001) }, "size"}, {func(e *api.Ensemble) { *e = api.Ensemble{} }, "size"},
		{func(e *api.Ensemble) { e.Aggregate = "" }, "aggregate"}, {func(e *api.Ensemble) { e.Aggregate = "sum" }, "aggregate"}, {func(e *api.Ensemble) { e.Aggregate = "AVERAGE" }, ""}, {func(e *api.Ensemble) { e.Post = "" }, "post"}, {func(e *api.Ensemble) { e.Post = "none" }, "post"}, {func(e *api.Ensemble) { e.Post = "LOGISTIC" }, ""}, {func(e *api.Ensemble) { e.Post = "SOFTMAX" }, ""},
		{func(e *api.Ensemble) { e.Base = e.Base[:1] }, "base"}, {func(e *api.Ensemble) { e.Base = append(e.Base, 0) }, "base"}, {func(e *api.Ensemble) { e.Base[1] = inf }, "base"}, {func(e *api.Ensemble) { e.Base[0] = nan }, "base"}, {func(e *api.Ensemble) { e.Base[0] = 1<<32 | one }, "base"},
		{func(e *api.Ensemble) { e.Nodes[2].Tree = -1 }, "number"}, {func(e *api.Ensemble) { e.Nodes[5].Node = -1 }, "number"}, {func(e *api.Ensemble) { e.Nodes[5].Node = 1 }, "number"}, {func(e *api.Ensemble) { e.Nodes[2].Tree = 5 }, "number"},
		{func(e *api.Ensemble) { e.Nodes[1].Mode = 0 }, "mode"}, {func(e *api.Ensemble) { e.Nodes[4].Mode = 8 }, "mode"},
		{func(e *api.Ensemble) { e.Nodes[1].Feature = 2 }, "feature"}, {func(e *api.Ensemble) { e.Nodes[3].Feature = -1 }, "feature"}, {func(e *api.Ensemble) { e.Features = 1 }, "feature"}, {func(e *api.Ensemble) { e.Nodes[4].Feature = -7 }, ""},
		{func(e *api.Ensemble) { e.Nodes[4].Value = 1 << 32 }, "value"}, {func(e *api.Ensemble) { e.Nodes[1].Value = 1<<32 | one }, "value"}, {func(e *api.Ensemble) { e.Nodes[1].Value = inf }, "value"}, {func(e *api.Ensemble) { e.Nodes[3].Value = nan }, "value"}, {func(e *api.Ensemble) { e.Nodes[4].Value = 1<<32 - 1 }, ""},
		{func(e *api.Ensemble) { e.Nodes[1].True = 9 }, "kid"}, {func(e *api.Ensemble) { e.Nodes[1].False = -1 }, "kid"}, {func(e *api.Ensemble) { e.Nodes[3].True = 2 }, "kid"}, {func(e *api.Ensemble) { e.Nodes[2].Node, e.Nodes[3].True = 4, 4 }, "kid"}, {func(e *api.Ensemble) { e.Nodes[4].True = 77 }, ""},
		{func(e *api.Ensemble) { e.Nodes[3].True = 3 }, "forest"}, {func(e *api.Ensemble) { e.Nodes[3].True = 7 }, "forest"}, {func(e *api.Ensemble) { e.Nodes[3].True = 0 }, "forest"}, {func(e *api.Ensemble) { e.Nodes[3].Mode = api.Leaf }, "forest"}, {func(e *api.Ensemble) { *e = chain(41) }, "forest"}, {func(e *api.Ensemble) { e.Nodes = append(e.Nodes, api.ENode{Tree: 2, Node: 9, Mode: api.Leaf}) }, "forest"},
		{func(e *api.Ensemble) {
			e.Nodes = append(e.Nodes, api.ENode{Tree: 2, Node: 8, Mode: 1, True: 9, False: 10}, api.ENode{Tree: 2, Node: 9, Mode: 1, True: 8, False: 11}, api.ENode{Tree: 2, Node: 10, Mode: api.Leaf}, api.ENode{Tree: 2, Node: 11, Mode: api.Leaf})
		}, "forest"}, // a ring beside a tree
		{func(e *api.Ensemble) {
			e.Nodes = append(e.Nodes, api.ENode{Tree: 7, Node: 8, Mode: 1, True: 9, False: 10}, api.ENode{Tree: 7, Node: 9, Mode: 1, True: 8, False: 11}, api.ENode{Tree: 7, Node: 10, Mode: api.Leaf}, api.ENode{Tree: 7, Node: 11, Mode: api.Leaf})
		}, "forest"}, // a tree without a root
		{func(e *api.Ensemble) { e.Leaves[0].Node = 7 }, "leaf"}, {func(e *api.Ensemble) { e.Leaves[1].Tree = 3 }, "leaf"}, {func(e *api.Ensemble) { e.Leaves[2].Target = 2 }, "leaf"}, {func(e *api.Ensemble) { e.Leaves[3].Target = -1 }, "leaf"}, {func(e *api.Ensemble) { e.Leaves[0].Node = 99 }, "leaf"},
		{func(e *api.Ensemble) { e.Leaves[0].Weight = inf }, "weight"}, {func(e *api.Ensemble) { e.Leaves[1].Weight = nan }, "weight"}, {func(e *api.Ensemble) { e.Leaves[3].Weight = 1<<32 | one }, "weight"},
		// the first one that is so
		{func(e *api.Ensemble) { e.Post, e.Base[0] = "x", inf }, "post"}, {func(e *api.Ensemble) { e.Leaves[0].Weight, e.Leaves[3].Target = inf, 9 }, "leaf"}, {func(e *api.Ensemble) { e.Nodes[0].Mode, e.Nodes[5].Tree = 0, -1 }, "number"}, {func(e *api.Ensemble) { e.Nodes[1].True, e.Nodes[3].Value = 99, nan }, "value"},
	} {
		e := sample()
		c.change(&e)
		if word, ok := Check(e); word != c.want || ok != (c.want == "") {
			t.Errorf("change %d: %q, %v, not %q", i, word, ok, c.want)
		}
	}
}

func TestP2202Places(t *testing.T) {
	e := sample()
	if got := Trees(e); !slices.Equal(got, []int{2, 5}) || len(Trees(api.Ensemble{})) != 0 {
		t.Error(got)
	}
	at := func(at int, ok bool) string { return fmt.Sprint(at, ok) }
	for i, c := range []struct{ got, want string }{
		{at(Root(e, 5)), "1 true"}, {at(Root(e, 2)), "2 true"}, {at(Root(e, 3)), "0 false"}, {at(Find(e, 5, 0)), "3 true"}, {at(Find(e, 2, 3)), "2 true"}, {at(Find(e, 2, 0)), "0 false"}, {at(Find(e, 9, 3)), "0 false"},
	} {
		if c.got != c.want {
			t.Errorf("number %d: %s", i, c.got)
		}
	}
	twice := api.Ensemble{Nodes: append(sample().Nodes, api.ENode{Tree: 5, Node: 0, Mode: api.Leaf}, api.ENode{Tree: 5, Node: 50, Mode: api.Leaf}, api.ENode{Tree: 6, Node: 1, Mode: 1, True: 1, False: 1})}
	if at(Find(twice, 5, 0)) != "3 true" || at(Root(twice, 5)) != "1 true" || at(Root(twice, 6)) != "0 false" {
		t.Error("of more than one the first:", at(Find(twice, 5, 0)), at(Root(twice, 5)), at(Root(twice, 6)))
	}
}

func TestP2202Weights(t *testing.T) {
	told := func(e api.Ensemble, tree, node, target int) string {
		return fmt.Sprint(slices.Collect(Weights(e, tree, node, target)))
	}
	e := sample()
	if got := told(e, 5, 3, 0) + told(e, 5, 3, 1) + told(e, 2, 3, 1) + told(e, 2, 3, 0) + told(e, 9, 9, 9); got != "[1065353216 3][4][2][][]" {
		t.Error(got)
	}
	seq := Weights(e, 5, 3, 0)
	e.Leaves[2].Weight = 99
	e.Leaves[0].Target = 1
	for range 2 {
		calls := 0
		for weight := range seq {
			if weight != []uint64{one, 3}[calls] {
				t.Error(weight)
			}
			calls++
		}
		seq(func(uint64) bool { calls++; return false })
		if calls != 3 {
			t.Error("calls behind a false:", calls)
		}
	}
}

func TestP2202Same(t *testing.T) {
	if !Same(sample(), sample()) || !Same(api.Ensemble{}, api.Ensemble{Base: []uint64{}}) {
		t.Error("not the same")
	}
	for i, change := range []func(e *api.Ensemble){
		func(e *api.Ensemble) { e.Features = 3 }, func(e *api.Ensemble) { e.Targets = 1 }, func(e *api.Ensemble) { e.Aggregate = "MIN" }, func(e *api.Ensemble) { e.Post = "PROBIT" }, func(e *api.Ensemble) { e.Base = nil }, func(e *api.Ensemble) { e.Base[1] = 1 << 31 }, func(e *api.Ensemble) { e.Nodes = e.Nodes[:5] }, func(e *api.Ensemble) { e.Nodes[1].Tracks = true }, func(e *api.Ensemble) { e.Nodes[0].Value = 1 }, func(e *api.Ensemble) { e.Leaves[0], e.Leaves[1] = e.Leaves[1], e.Leaves[0] }, func(e *api.Ensemble) { e.Leaves[0].Weight = 0 },
	} {
		e := sample()
		change(&e)
		if Same(e, sample()) || Same(sample(), e) {
			t.Error("change", i, "is the same")
		}
	}
}

func TestP2202Modes(t *testing.T) {
	for i, name := range []string{"BRANCH_LEQ", "BRANCH_LT", "BRANCH_GTE", "BRANCH_GT", "BRANCH_EQ", "BRANCH_NEQ", "LEAF"} {
		if m, ok := Mode(name); m != i+1 || !ok || ModeName(i+1) != name {
			t.Error(name, m, ok, ModeName(i+1))
		}
	}
	for _, name := range []string{"", "leaf", "BRANCH", "BRANCH_LEQ ", "BRANCH_MEMBER"} {
		if m, ok := Mode(name); m != 0 || ok {
			t.Error(name, m, ok)
		}
	}
	if ModeName(0)+ModeName(8)+ModeName(-1) != "" {
		t.Error("names of no modes")
	}
}
