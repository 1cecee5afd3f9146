package lift

import (
	"fmt"
	"math"
	"math/rand"
	"slices"
	"testing"

	"hornbeam/api"
	"hornbeam/logic"
	"hornbeam/model"
	"hornbeam/onnxrun"
)

func bits(v float64) uint64 { return uint64(math.Float32bits(float32(v))) }

const nan = 0x7fc00000

// sample has a tree 7 (5: x1 <= 1.5; true 2, false 3: x0 == 0; true 9, false 4) and a tree 1, a leaf.
func sample() api.Ensemble {
	return api.Ensemble{
		Features: 2, Targets: 1, Aggregate: "SUM", Post: "NONE",
		Nodes: []api.ENode{
			{Tree: 7, Node: 2, Mode: api.Leaf, Tracks: true}, {Tree: 7, Node: 4, Mode: api.Leaf}, {Tree: 7, Node: 5, Mode: api.BranchLEQ, Feature: 1, Value: bits(1.5), True: 2, False: 3, Tracks: true}, {Tree: 7, Node: 3, Mode: api.BranchEQ, Value: 1 << 31, True: 9, False: 4}, {Tree: 7, Node: 9, Mode: api.Leaf}, {Tree: 1, Node: 0, Mode: api.Leaf},
		},
		Leaves: []api.ELeaf{{Tree: 7, Node: 2, Weight: bits(2)}, {Tree: 7, Node: 9, Weight: bits(-0.5)}, {Tree: 7, Node: 2, Weight: bits(0.25)}, {Tree: 1, Weight: bits(3)}},
	}
}

func ask(op, field int, num string) api.Pred {
	return api.Pred{Op: op, Field: field, Values: []api.Value{{Kind: api.Number, Num: num}}}
}

func TestP2501(t *testing.T) {
	yes := api.Pred{Op: api.True}
	node := func(p api.Pred, score string, fallback int, kids ...int) api.Node {
		return api.Node{Pred: p, Score: score, Default: fallback, Kids: kids}
	}
	tree := func(nodes ...api.Node) api.Segment {
		return api.Segment{Pred: yes, Tree: api.Tree{Missing: api.ToDefault, NoTrue: api.NoScore, Nodes: nodes}}
	}
	field := func(name string) api.Field {
		return api.Field{Name: name, Kind: api.Continuous, Invalid: api.AsMissing}
	}
	want := func(change func(m *api.Model)) api.Model {
		m := api.Model{Fields: []api.Field{field("f0"), field("f1")}, Method: api.SumOf, Segments: []api.Segment{
			tree(node(yes, "3", -1)),
			tree(node(yes, "", 1, 1, 2), node(ask(api.LessEq, 1, "3/2"), "9/4", -1), node(ask(api.Great, 1, "3/2"), "", 4, 3, 4), node(ask(api.Equal, 0, "0"), "-1/2", -1), node(ask(api.NotEqual, 0, "0"), "0", -1)),
		}}
		change(&m)
		return m
	}
	for i, c := range []struct {
		ensemble func(e *api.Ensemble)
		model    func(m *api.Model)
	}{
		{func(e *api.Ensemble) {}, func(m *api.Model) {}},
		{func(e *api.Ensemble) { e.Aggregate = "AVERAGE" }, func(m *api.Model) { m.Method = api.AverageOf }},
		{func(e *api.Ensemble) {
			e.Aggregate, e.Leaves = "MIN", append(e.Leaves, api.ELeaf{Tree: 7, Node: 4})
		}, func(m *api.Model) { m.Method = api.MinOf }},
		{func(e *api.Ensemble) {
			e.Aggregate, e.Leaves = "MAX", append(e.Leaves, api.ELeaf{Tree: 7, Node: 4})
		}, func(m *api.Model) { m.Method = api.MaxOf }},
		{func(e *api.Ensemble) { e.Base = []uint64{bits(0.5)} }, func(m *api.Model) { m.Target.Constant = "1/2" }}, {func(e *api.Ensemble) { e.Base = []uint64{0} }, func(m *api.Model) {}}, {func(e *api.Ensemble) { e.Base = []uint64{1 << 31} }, func(m *api.Model) {}},
		{func(e *api.Ensemble) { e.Post = "PROBIT" }, func(m *api.Model) { m.Tag = "PROBIT" }}, {func(e *api.Ensemble) { e.Post = "SOFTMAX" }, func(m *api.Model) { m.Tag = "SOFTMAX" }}, {func(e *api.Ensemble) { e.Post = "LOGISTIC" }, func(m *api.Model) { m.Tag = "LOGISTIC" }},
		{func(e *api.Ensemble) { e.Features = 3 }, func(m *api.Model) { m.Fields = append(m.Fields, field("f2")) }},
	} {
		e := sample()
		c.ensemble(&e)
		got, code, word := Model(e)
		if code != api.OK || word != "" || !model.Valid(got) || !model.Same(got, want(c.model)) {
			t.Errorf("number %d: %+v, %d, %q", i, got, code, word)
		}
	}
}

func TestP2501Modes(t *testing.T) {
	for mode, want := range map[int]string{api.BranchLEQ: "4(0,1)8(0,1)", api.BranchLT: "3(0,1)7(0,1)", api.BranchGTE: "7(0,1)3(0,1)", api.BranchGT: "8(0,1)4(0,1)", api.BranchEQ: "5(0,1)6(0,1)", api.BranchNEQ: "6(0,1)5(0,1)"} {
		for _, tracks := range []bool{true, false} {
			e := api.Ensemble{Features: 1, Targets: 1, Aggregate: "SUM", Post: "NONE", Nodes: []api.ENode{{Mode: mode, Value: bits(1), True: 2, False: 1, Tracks: tracks}, {Node: 1, Mode: api.Leaf}, {Node: 2, Mode: api.Leaf}}}
			m, _, _ := Model(e)
			nodes := m.Segments[0].Tree.Nodes
			if got := logic.Text(nodes[1].Pred) + logic.Text(nodes[2].Pred); got != want || nodes[0].Default != map[bool]int{true: 1, false: 2}[tracks] {
				t.Errorf("mode %d: %s, %d", mode, got, nodes[0].Default)
			}
		}
	}
}

func TestP2501Refused(t *testing.T) {
	for i, c := range []struct {
		change func(e *api.Ensemble)
		code   api.Code
		word   string
	}{
		{func(e *api.Ensemble) { *e = api.Ensemble{} }, api.ErrArg, "size"}, {func(e *api.Ensemble) { e.Leaves[0].Weight = nan }, api.ErrArg, "weight"}, {func(e *api.Ensemble) { e.Targets, e.Nodes[2].True = 2, 77 }, api.ErrArg, "kid"},
		{func(e *api.Ensemble) { e.Targets = 2 }, api.ErrKind, "targets"}, {func(e *api.Ensemble) { e.Post = "SOFTMAX_ZERO" }, api.ErrKind, "post"}, {func(e *api.Ensemble) { e.Targets, e.Post = 2, "SOFTMAX_ZERO" }, api.ErrKind, "targets"}, {func(e *api.Ensemble) { e.Aggregate = "MIN" }, api.ErrKind, "leaf"}, {func(e *api.Ensemble) { e.Aggregate = "MAX" }, api.ErrKind, "leaf"}, {func(e *api.Ensemble) { e.Aggregate, e.Post = "MAX", "SOFTMAX_ZERO" }, api.ErrKind, "post"},
	} {
		e := sample()
		c.change(&e)
		if m, code, word := Model(e); code != c.code || word != c.word || !model.Same(m, api.Model{}) {
			t.Errorf("change %d: %d, %q", i, code, word)
		}
	}
}

func TestP2502(t *testing.T) {
	for i, c := range []struct {
		row  []uint64
		want string
	}{
		{nil, "[] true"}, {[]uint64{bits(1.5), nan, 1 << 31, 0xffc00001}, "[{1 3/2 } {0  } {1 0 } {0  }] true"}, {[]uint64{bits(1), bits(math.Inf(1))}, "[] false"}, {[]uint64{0xff800000}, "[] false"},
	} {
		got, ok := Row(c.row)
		if s := fmt.Sprint(got, ok); s != c.want {
			t.Errorf("number %d: %s", i, s)
		}
	}
	if FieldName(0) != "f0" || FieldName(39) != "f39" {
		t.Error(FieldName(0), FieldName(39))
	}
}

// grown tells a tree's nodes: leaves are split, again and again.
func grown(r *rand.Rand, tree int) []api.ENode {
	out := []api.ENode{{Tree: tree, Mode: api.Leaf}}
	for range r.Intn(6) {
		n := len(out)
		up := &out[r.Intn(n)]
		for up.Mode != api.Leaf {
			up = &out[r.Intn(n)]
		}
		up.Mode, up.Feature, up.Value, up.True, up.False, up.Tracks = 1+r.Intn(6), r.Intn(3), some(r), n+1, n, r.Intn(2) == 0
		out = append(out, api.ENode{Tree: tree, Node: n, Mode: api.Leaf}, api.ENode{Tree: tree, Node: n + 1, Mode: api.Leaf})
	}
	return out
}

func some(r *rand.Rand) uint64 {
	return []uint64{bits(0.1), bits(-2), 0, 1 << 31, bits(math.MaxFloat32), 1, bits(7)}[r.Intn(7)]
}

func TestP2503(t *testing.T) {
	r := rand.New(rand.NewSource(1))
	for range 1500 {
		e := api.Ensemble{Features: 3, Targets: 1, Aggregate: []string{"SUM", "AVERAGE", "MIN", "MAX"}[r.Intn(4)], Post: "NONE"}
		if r.Intn(2) == 0 {
			e.Base = []uint64{some(r)}
		}
		for tree := range 1 + r.Intn(4) {
			nodes := grown(r, 3*tree)
			for _, n := range nodes {
				for range r.Intn(2) + len(e.Aggregate)%2 { // where the least or the greatest counts each leaf gives something
					e.Leaves = append(e.Leaves, api.ELeaf{Tree: n.Tree, Node: n.Node, Weight: some(r)})
				}
			}
			r.Shuffle(len(nodes), func(i, j int) { nodes[i], nodes[j] = nodes[j], nodes[i] })
			e.Nodes = append(e.Nodes, nodes...)
			e.Leaves = slices.DeleteFunc(e.Leaves, func(l api.ELeaf) bool {
				return slices.ContainsFunc(nodes, func(n api.ENode) bool {
					return n.Tree == l.Tree && n.Node == l.Node && n.Mode != api.Leaf
				})
			})
		}
		m, code, word := Model(e)
		if code != api.OK {
			t.Fatal(code, word, e)
		}
		for range 20 {
			row := []uint64{some(r), some(r), some(r)}
			if r.Intn(2) == 0 {
				row[r.Intn(3)] = nan
			}
			want, _ := onnxrun.Score(e, row)
			values, _ := Row(row)
			if got, code := model.Score(m, values); code != api.OK || !slices.Equal(got.Nums, want) {
				t.Fatalf("%x of %+v: %q, %d, not %q", row, e, got.Nums, code, want)
			}
		}
	}
}
