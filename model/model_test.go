package model

import (
	"fmt"
	"slices"
	"strings"
	"testing"

	"hornbeam/api"
	"hornbeam/clone"
)

func numeral(s string) api.Value { return api.Value{Kind: api.Number, Num: s} }

func cat(s string) api.Value { return api.Value{Kind: api.Category, Cat: s} }

func ask(op, field int, v api.Value) api.Pred {
	return api.Pred{Op: op, Field: field, Values: []api.Value{v}}
}

func node(p api.Pred, score string, kids ...int) api.Node {
	return api.Node{Pred: p, Score: score, Kids: kids, Default: -1}
}

// sample adds a tree on x (missing: 9) and, where c is red, a leaf; times 2.
func sample() api.Model {
	yes := api.Pred{Op: api.True}
	return api.Model{
		Fields: []api.Field{{Name: "x", Kind: api.Continuous, Invalid: api.Refuse, Replace: numeral("0")}, {Name: "c", Kind: api.Categorical, Values: []string{"red", "blue"}, Invalid: api.AsMissing}},
		Method: api.SumOf,
		Segments: []api.Segment{
			{Pred: yes, Weight: "3", Tree: api.Tree{Missing: api.LastScore, NoTrue: api.NoScore, Nodes: []api.Node{node(yes, "9", 1, 2), node(ask(api.Less, 0, numeral("5")), "1"), node(ask(api.GreatEq, 0, numeral("5")), "1/2")}}},
			{Pred: ask(api.Equal, 1, cat("red")), Tree: api.Tree{Missing: api.SkipIt, NoTrue: api.NoScore, Nodes: []api.Node{node(yes, "100")}}},
		},
		Target: api.Target{Factor: "2"},
		Tag:    "PROBIT",
	}
}

func TestP1801Valid(t *testing.T) {
	fields := func(n int) func(m *api.Model) {
		return func(m *api.Model) {
			for i := len(m.Fields); i < n; i++ {
				m.Fields = append(m.Fields, api.Field{Name: fmt.Sprint(i), Kind: api.Continuous, Invalid: 1})
			}
		}
	}
	for i, c := range []struct {
		change func(m *api.Model)
		want   bool
	}{
		{func(m *api.Model) {}, true}, {fields(40), true}, {fields(41), false}, {func(m *api.Model) { *m = api.Model{} }, false},
		{func(m *api.Model) { m.Fields[1].Name = "x" }, false}, {func(m *api.Model) { m.Fields[1].Name = "" }, false}, {func(m *api.Model) { m.Fields[0].Replace = cat("red") }, false}, {func(m *api.Model) { m.Fields = m.Fields[:1] }, false}, {func(m *api.Model) { m.Fields[1], m.Fields[0] = m.Fields[0], m.Fields[1] }, false},
		{func(m *api.Model) { m.Method = 0 }, false}, {func(m *api.Model) { m.Method = api.Chain }, true}, {func(m *api.Model) { m.Segments = nil }, false}, {func(m *api.Model) { m.Segments[0].Weight = "-1" }, false},
		{func(m *api.Model) { m.Target.Cast = 9 }, false}, {func(m *api.Model) { m.Target.Min = "1.5" }, false},
		{func(m *api.Model) { m.Tag = "" }, true}, {func(m *api.Model) { m.Tag = "SOFTMAX" }, true}, {func(m *api.Model) { m.Tag = "LOGISTIC" }, true}, {func(m *api.Model) { m.Tag = "NONE" }, false}, {func(m *api.Model) { m.Tag = "SOFTMAX_ZERO" }, false}, {func(m *api.Model) { m.Tag = "softmax" }, false},
	} {
		m := sample()
		c.change(&m)
		if Valid(m) != c.want {
			t.Error("change", i, !c.want)
		}
		f, code := Scorer(m)
		if (f != nil) != c.want || (code == api.OK) != c.want {
			t.Error("change", i, f != nil, code)
		}
		if c.want {
			continue
		}
		if code != api.ErrArg {
			t.Error("change", i, code)
		}
		if r, code := Score(m, nil); code != api.ErrArg || len(r.Nums) != 0 {
			t.Error("change", i, r, code)
		}
		for range Rows(m, [][]api.Value{{numeral("1"), cat("red")}}) {
			t.Error("change", i, "has rows")
		}
	}
}

func TestP1801Score(t *testing.T) {
	none := api.Value{}
	leaf := api.Model{Method: api.SumOf, Segments: []api.Segment{{Pred: api.Pred{Op: api.True}, Tree: api.Tree{Missing: 1, NoTrue: 2, Nodes: []api.Node{node(api.Pred{Op: api.True}, "3")}}}}}
	all := sample()
	all.Method = api.SelectAll
	unreplaced := sample()
	unreplaced.Fields[0].Replace = none
	weighted := sample()
	weighted.Method = api.WeightedOf
	for i, c := range []struct {
		m    api.Model
		row  []api.Value
		want string
		code api.Code
	}{
		{leaf, nil, "3", 0}, {leaf, []api.Value{none}, "", api.ErrArity},
		{sample(), []api.Value{numeral("1"), cat("red")}, "202", 0}, {sample(), []api.Value{numeral("7"), cat("blue")}, "1", 0}, {sample(), []api.Value{none, none}, "2", 0}, {sample(), []api.Value{numeral("7"), cat("green")}, "1", 0},
		{sample(), []api.Value{cat("red"), cat("red")}, "-", 0}, {sample(), []api.Value{numeral("1")}, "", api.ErrArity}, {sample(), nil, "", api.ErrArity}, {sample(), []api.Value{numeral("2/4"), none}, "", api.ErrArg}, {sample(), []api.Value{cat("x"), {Kind: 9}}, "", api.ErrArg},
		{unreplaced, []api.Value{none, none}, "18", 0}, {unreplaced, []api.Value{none, cat("red")}, "218", 0},
		{all, []api.Value{numeral("1"), cat("red")}, "2 200", 0}, {all, []api.Value{cat("red"), none}, "-", 0}, {weighted, []api.Value{numeral("1"), cat("red")}, "103/2", 0},
	} {
		r, code := Score(c.m, c.row)
		got := strings.Join(r.Nums, " ")
		if len(r.Nums) == 1 && got == "" {
			got = "-"
		}
		if got != c.want || code != c.code {
			t.Errorf("number %d: %q, %d", i, got, code)
		}
		f, _ := Scorer(c.m)
		for range 2 {
			if fast, code := f.Score(c.row); !slices.Equal(fast.Nums, r.Nums) || code != c.code {
				t.Errorf("number %d: fast %q, %d", i, fast.Nums, code)
			}
		}
	}
}

func TestP1802Fast(t *testing.T) {
	m := sample()
	f, _ := Scorer(m)
	m.Segments[0].Tree.Nodes[1].Score = "77"
	m.Segments[0].Pred.Op = api.False
	m.Segments[1].Pred.Values[0] = cat("blue")
	m.Fields[1].Values[0] = "green"
	if r, code := f.Score([]api.Value{numeral("1"), cat("red")}); !slices.Equal(r.Nums, []string{"202"}) || code != 0 {
		t.Error("a Fast shares memory:", r, code)
	}
	var none *Fast
	for _, f := range []*Fast{none, {}} {
		if r, code := f.Score(nil); len(r.Nums) != 0 || code != api.ErrArg {
			t.Error("a Fast that is none:", r, code)
		}
	}
}

func TestP1802Same(t *testing.T) {
	if !Same(sample(), sample()) || !Same(api.Model{}, api.Model{}) {
		t.Error("not the same")
	}
	for i, change := range []func(m *api.Model){
		func(m *api.Model) { m.Method = api.MaxOf }, func(m *api.Model) { m.Tag = "" }, func(m *api.Model) { m.Target.Min = "0" }, func(m *api.Model) { m.Target.Cast = 1 }, func(m *api.Model) { m.Fields = m.Fields[:1] }, func(m *api.Model) { m.Fields[0].Name = "y" }, func(m *api.Model) { m.Fields[0].Kind = 2 }, func(m *api.Model) { m.Fields[0].Invalid = 2 }, func(m *api.Model) { m.Fields[0].Replace = numeral("1") }, func(m *api.Model) { m.Fields[1].Values = []string{"blue", "red"} },
		func(m *api.Model) { m.Segments = m.Segments[:1] }, func(m *api.Model) { m.Segments[0].Weight = "1" }, func(m *api.Model) { m.Segments[0].Pred = m.Segments[1].Pred }, func(m *api.Model) { m.Segments[0].Tree.Nodes[1].Score = "7" }, func(m *api.Model) { m.Segments[0].Tree.NoTrue = 2 }, func(m *api.Model) { m.Segments[0], m.Segments[1] = m.Segments[1], m.Segments[0] },
	} {
		m := sample()
		change(&m)
		if Same(m, sample()) || Same(sample(), m) {
			t.Error("change", i, "is the same")
		}
	}
}

func TestP1802Size(t *testing.T) {
	if trees, nodes := Size(sample()); trees != 2 || nodes != 4 {
		t.Error(trees, nodes)
	}
	if trees, nodes := Size(api.Model{}); trees != 0 || nodes != 0 {
		t.Error(trees, nodes)
	}
}

func TestP1802Rows(t *testing.T) {
	m := sample()
	rows := [][]api.Value{{numeral("1"), cat("red")}, nil, {cat("x"), {}}, {numeral("x"), {}}, {numeral("7"), {}}, {numeral("1"), {}}}
	seq := Rows(m, rows)
	rows[0][0], rows[4] = numeral("7"), nil
	m.Segments[0].Tree.Nodes[1].Score = "77"
	for range 2 {
		got := ""
		for i, r := range seq {
			got += fmt.Sprint(i, strings.Join(r.Nums, ","), " ")
			r.Nums[0] = "spoilt"
		}
		if got != "0202 2 41 52 " {
			t.Error(got)
		}
	}
	calls := 0
	seq(func(int, api.Result) bool { calls++; return calls < 2 })
	if calls != 2 {
		t.Error("calls behind a false:", calls)
	}
	for range Rows(sample(), nil) {
		t.Error("of no rows some")
	}
	if !Same(clone.Model(sample()), sample()) {
		t.Error("a copy is another one")
	}
}
