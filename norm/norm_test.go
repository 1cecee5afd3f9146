package norm

import (
	"math/rand"
	"reflect"
	"slices"
	"testing"

	"hornbeam/api"
	"hornbeam/clone"
	"hornbeam/logic"
	"hornbeam/model"
	"hornbeam/tree"
)

func numeral(s string) api.Value { return api.Value{Kind: api.Number, Num: s} }

func cat(s string) api.Value { return api.Value{Kind: api.Category, Cat: s} }

func ask(op, field int, v ...api.Value) api.Pred { return api.Pred{Op: op, Field: field, Values: v} }

func join(op int, kids ...api.Pred) api.Pred { return api.Pred{Op: op, Kids: kids} }

var (
	yes = api.Pred{Op: api.True}
	no  = api.Pred{Op: api.False}
)

func TestP1901Pred(t *testing.T) {
	one, two, three := numeral("1"), numeral("2"), numeral("3")
	less := ask(api.Less, 0, two)
	for i, c := range []struct{ p, want api.Pred }{
		{ask(api.In, 0, three, one, three), ask(api.In, 0, one, three)}, {ask(api.NotIn, 0, two, one), ask(api.NotIn, 0, one, two)},
		{ask(api.In, 0, numeral("10"), numeral("9"), numeral("-1"), numeral("1/2"), numeral("-2")), ask(api.In, 0, numeral("-2"), numeral("-1"), numeral("1/2"), numeral("9"), numeral("10"))},
		{ask(api.In, 1, cat("b"), cat("a"), cat("B"), cat(""), cat("ab"), cat("a")), ask(api.In, 1, cat(""), cat("B"), cat("a"), cat("ab"), cat("b"))},
		{ask(api.In, 0, cat("a"), three, api.Value{}, numeral("x"), one, api.Value{}), ask(api.In, 0, api.Value{}, one, three, numeral("x"), cat("a"))},
		{ask(api.In, 0, one), ask(api.Equal, 0, one)}, {ask(api.In, 0, one, one), ask(api.Equal, 0, one)}, {ask(api.NotIn, 1, cat("a"), cat("a")), ask(api.NotEqual, 1, cat("a"))}, {ask(api.In, 0), ask(api.In, 0)},
		{less, less}, {ask(api.Equal, 0, three, one), ask(api.Equal, 0, three, one)},
		{join(api.And, yes, ask(api.In, 0, two, one)), ask(api.In, 0, one, two)}, {join(api.Or, join(api.Xor, less, ask(api.NotIn, 0, one)), ask(api.In, 0, two, two)), join(api.Or, join(api.Xor, less, ask(api.NotEqual, 0, one)), ask(api.Equal, 0, two))}, {join(api.And, no, less), no},
		{join(api.Surrogate, ask(api.In, 0, two, one), yes, less), join(api.Surrogate, ask(api.In, 0, one, two), yes)},
	} {
		before := clone.Pred(c.p)
		got := Pred(c.p)
		if !logic.Same(got, c.want) || !logic.Same(before, c.p) || !logic.Same(Pred(got), got) {
			t.Errorf("number %d, %s: %s", i, logic.Text(c.p), logic.Text(got))
		}
	}
}

func node(p api.Pred, score string, fallback int, kids ...int) api.Node {
	return api.Node{Pred: p, Score: score, Count: "1", Default: fallback, Kids: kids}
}

func of(missing int, nodes ...api.Node) api.Tree {
	return api.Tree{Missing: missing, NoTrue: api.LastScore, Nodes: nodes}
}

func TestP1901Tree(t *testing.T) {
	p := ask(api.Less, 0, numeral("5"))
	hidden := join(api.And, no, p)
	for i, c := range []struct{ t, want api.Tree }{
		{of(1, node(yes, "1", -1)), of(1, node(yes, "1", -1))},
		{of(1, node(join(api.And, yes, yes), "1", 7)), of(1, node(yes, "1", -1))},
		{of(1, node(yes, "1", -1, 2, 1), node(ask(api.In, 0, numeral("2"), numeral("1")), "2", -1), node(p, "3", -1)), of(1, node(yes, "1", -1, 1, 2), node(p, "3", -1), node(ask(api.In, 0, numeral("1"), numeral("2")), "2", -1))},
		// a False one, and what is below it
		{of(1, node(yes, "1", -1, 1, 3, 4), node(hidden, "2", -1, 2), node(p, "3", -1), node(p, "4", -1), node(p, "5", -1)), of(1, node(yes, "1", -1, 1, 2), node(p, "4", -1), node(p, "5", -1))},
		{of(1, node(yes, "1", 1, 1, 2), node(no, "2", -1), node(p, "3", -1)), of(1, node(yes, "1", 1, 1, 2), node(no, "2", -1), node(p, "3", -1))},
		{of(4, node(yes, "1", 2, 1, 2), node(no, "2", -1), node(no, "3", -1)), of(4, node(yes, "1", 1, 1), node(no, "3", -1))},
		{of(4, node(yes, "1", 1, 1, 2), node(no, "2", -1), node(no, "3", -1)), of(4, node(yes, "1", 1, 1), node(no, "2", -1))},
		{of(1, node(yes, "1", -1, 1, 2, 3), node(no, "2", -1), node(no, "3", -1), node(no, "4", -1)), of(1, node(yes, "1", -1, 1), node(no, "4", -1))},
		{of(1, node(yes, "1", -1, 1), node(no, "2", -1, 2), node(p, "3", -1)), of(1, node(yes, "1", -1, 1), node(no, "2", -1, 2), node(p, "3", -1))},
		// behind a True one
		{of(1, node(yes, "1", -1, 1, 2, 3), node(p, "2", -1), node(yes, "3", -1), node(p, "4", -1, 4), node(p, "5", -1)), of(1, node(yes, "1", -1, 1, 2), node(p, "2", -1), node(yes, "3", -1))},
		{of(4, node(yes, "1", 3, 1, 2, 3), node(yes, "2", -1), node(p, "3", -1), node(no, "4", -1)), of(4, node(yes, "1", 2, 1, 2), node(yes, "2", -1), node(no, "4", -1))},
		{of(5, node(yes, "1", -1, 1, 2, 3), node(p, "2", -1), node(yes, "3", -1), node(p, "4", -1)), of(5, node(yes, "1", -1, 1, 2, 3), node(p, "2", -1), node(yes, "3", -1), node(p, "4", -1))},
		{of(6, node(yes, "1", -1, 1, 2, 3), node(no, "2", -1), node(yes, "3", -1), node(p, "4", -1)), of(6, node(yes, "1", -1, 1, 2), node(yes, "3", -1), node(p, "4", -1))},
		// the root's own predicate changes nothing
		{of(1, node(no, "1", -1, 1, 2), node(p, "2", -1), node(p, "3", -1)), of(1, node(no, "1", -1, 1, 2), node(p, "2", -1), node(p, "3", -1))},
		// a Default that is left out with what is above it
		{of(4, node(yes, "1", -1, 1, 3), node(no, "2", 2, 2), node(p, "3", -1), node(p, "4", 2)), of(4, node(yes, "1", -1, 1), node(p, "4", -1))},
	} {
		before := clone.Tree(c.t)
		got, ok := Tree(c.t)
		if !ok || !tree.Same(got, c.want) || !reflect.DeepEqual(clone.Tree(c.t), before) {
			t.Errorf("number %d: %+v, not %+v", i, got, c.want)
		}
		if again, _ := Tree(got); !tree.Same(again, got) {
			t.Errorf("number %d: %+v the second time", i, again)
		}
	}
	for i, bad := range []api.Tree{{}, of(1, node(yes, "1", -1, 1)), of(1, node(yes, "1", -1), node(yes, "1", -1)), of(1, node(yes, "1", -1, 1, 1), node(yes, "1", -1))} {
		if got, ok := Tree(bad); ok || len(got.Nodes) != 0 || got.Missing != 0 {
			t.Error("no tree's shape:", i, got, ok)
		}
	}
}

func leafModel(segments ...api.Segment) api.Model {
	return api.Model{Fields: []api.Field{{Name: "x", Kind: api.Continuous, Invalid: 1}, {Name: "c", Kind: api.Categorical, Invalid: 1}}, Method: api.SelectAll, Segments: segments}
}

func TestP1902(t *testing.T) {
	leaf := of(1, node(yes, "1", -1))
	segment := func(p api.Pred, weight string) api.Segment { return api.Segment{Pred: p, Weight: weight, Tree: leaf} }
	p := ask(api.Less, 0, numeral("5"))
	for i, c := range []struct{ m, want api.Model }{
		{leafModel(segment(p, "1")), leafModel(segment(p, ""))}, {leafModel(segment(p, "2"), segment(yes, "0")), leafModel(segment(p, "2"), segment(yes, "0"))},
		{leafModel(segment(no, ""), segment(p, "")), leafModel(segment(p, ""))}, {leafModel(segment(no, "2"), segment(no, "3")), leafModel(segment(no, "3"))}, {leafModel(segment(no, "1")), leafModel(segment(no, ""))}, {leafModel(segment(join(api.And, p, no), "2"), segment(join(api.Or, no, p), "3")), leafModel(segment(p, "3"))}, {leafModel(segment(p, ""), segment(no, "")), leafModel(segment(p, ""))},
	} {
		got, code := Model(c.m)
		if code != api.OK || !model.Same(got, c.want) || !model.Valid(got) {
			t.Errorf("number %d: %+v, %d", i, got, code)
		}
		if Normal(c.m) != model.Same(c.m, c.want) || !Normal(got) {
			t.Errorf("number %d: %v", i, Normal(c.m))
		}
	}
	if got, code := Model(api.Model{}); code != api.ErrArg || len(got.Segments) != 0 || Normal(api.Model{}) {
		t.Error("of no model:", got, code)
	}
	m := leafModel(segment(p, ""))
	got, _ := Model(m)
	got.Segments[0].Pred.Values[0] = numeral("9")
	got.Segments[0].Tree.Nodes[0].Score = "9"
	got.Fields[0].Name = "y"
	if m.Segments[0].Pred.Values[0].Num != "5" || m.Segments[0].Tree.Nodes[0].Score != "1" || m.Fields[0].Name != "x" {
		t.Error("what is told shares memory")
	}
}

// some tells valid predicates of all kinds.
func some(r *rand.Rand, deep int) api.Pred {
	if deep > 1 && r.Intn(2) == 0 {
		var kids []api.Pred
		for range 2 + r.Intn(2) {
			kids = append(kids, some(r, deep-1))
		}
		return join(api.And+r.Intn(4), kids...)
	}
	n := []api.Value{numeral("4"), numeral("5"), numeral("1/2")}
	c := []api.Value{cat("a"), cat("b")}
	r.Shuffle(3, func(i, j int) { n[i], n[j] = n[j], n[i] })
	r.Shuffle(2, func(i, j int) { c[i], c[j] = c[j], c[i] })
	return []api.Pred{yes, no, yes, no, ask(api.Less+r.Intn(6), 0, n[0]), ask(api.Equal+r.Intn(2), 1, c[0]), ask(api.In+r.Intn(2), 0, n[:1+r.Intn(3)]...), ask(api.In+r.Intn(2), 1, append(c, c[0])[:1+r.Intn(3)]...), ask(api.IsMissing+r.Intn(2), r.Intn(2))}[r.Intn(9)]
}

func someTree(r *rand.Rand) api.Tree {
	t := api.Tree{Missing: 1 + r.Intn(6), NoTrue: 2 + r.Intn(2), Nodes: []api.Node{node(yes, "9", -1)}}
	for n := 1; n < 2+r.Intn(10); n++ {
		up := r.Intn(n)
		t.Nodes[up].Kids = append(t.Nodes[up].Kids, n)
		t.Nodes = append(t.Nodes, node(some(r, 2), []string{"", "1", "2/3", "-7"}[r.Intn(4)], -1))
		t.Nodes[n].Count = []string{"", "0", "2", "5"}[r.Intn(4)]
	}
	for n := range t.Nodes {
		if kids := t.Nodes[n].Kids; len(kids) > 0 && r.Intn(3) > 0 {
			t.Nodes[n].Default = kids[r.Intn(len(kids))]
		}
	}
	return t
}

func TestP1903(t *testing.T) {
	r := rand.New(rand.NewSource(1))
	numbers := []api.Value{{}, numeral("4"), numeral("5"), numeral("6"), numeral("1/2")}
	cats := []api.Value{{}, cat("a"), cat("b"), cat("z")}
	changed := 0
	for range 4000 {
		var l []api.Segment
		for range 1 + r.Intn(3) {
			l = append(l, api.Segment{Pred: some(r, 2), Weight: []string{"", "1", "2"}[r.Intn(3)], Tree: someTree(r)})
		}
		m := leafModel(l...)
		m.Method = 1 + r.Intn(9)
		plain, code := Model(m)
		if code != api.OK || !model.Valid(plain) {
			t.Fatalf("%+v: %d", m, code)
		}
		if again, _ := Model(plain); !model.Same(again, plain) || !Normal(plain) {
			t.Fatalf("%+v: another one the second time", m)
		}
		if !model.Same(m, plain) {
			changed++
		}
		for range 10 {
			row := []api.Value{numbers[r.Intn(5)], cats[r.Intn(4)]}
			a, _ := model.Score(m, row)
			b, _ := model.Score(plain, row)
			if !slices.Equal(a.Nums, b.Nums) {
				t.Fatalf("%+v of %v: %q, plain %q", m, row, a.Nums, b.Nums)
			}
		}
	}
	if changed < 1000 {
		t.Error("hardly any one was changed:", changed)
	}
}
