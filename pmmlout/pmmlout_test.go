package pmmlout

import (
	"math/rand"
	"slices"
	"strings"
	"testing"

	"hornbeam/api"
	"hornbeam/clone"
	"hornbeam/model"
	"hornbeam/norm"
	"hornbeam/pmmlin"
)

func numeral(s string) api.Value { return api.Value{Kind: api.Number, Num: s} }

func cat(s string) api.Value { return api.Value{Kind: api.Category, Cat: s} }

func ask(op, field int, v ...api.Value) api.Pred { return api.Pred{Op: op, Field: field, Values: v} }

func join(op int, kids ...api.Pred) api.Pred { return api.Pred{Op: op, Kids: kids} }

var (
	yes = api.Pred{Op: api.True}
	no  = api.Pred{Op: api.False}
)

func node(p api.Pred, score, count string, fallback int, kids ...int) api.Node {
	return api.Node{Pred: p, Score: score, Count: count, Default: fallback, Kids: kids}
}

func leaf(score string) api.Tree {
	return api.Tree{Missing: api.SkipIt, NoTrue: api.NoScore, Nodes: []api.Node{node(yes, score, "", -1)}}
}

// sample has one of nearly everything.
func sample() api.Model {
	first := api.Tree{Missing: api.ToDefault, NoTrue: api.LastScore, Nodes: []api.Node{
		node(yes, "-1/2", "10", 2, 1, 2), node(ask(api.Less, 0, numeral("5/2")), "1", "1/4", -1), node(join(api.Or, ask(api.In, 1, cat("a b"), cat("\"\\"), cat("")), ask(api.IsMissing, 0), join(api.And, ask(api.NotEqual, 1, cat("red & <blue>")), no)), "", "", -1, 3), node(ask(api.NotIn, 0, numeral("-1"), numeral("7/8")), "3", "", -1),
	}}
	return api.Model{
		Fields: []api.Field{{Name: "x <1>", Kind: api.Continuous, Replace: numeral("1/8"), Invalid: api.AsIs}, {Name: "c", Kind: api.Categorical, Values: []string{"red & <blue>", "", " edge\t"}, Replace: cat(""), Invalid: api.AsMissing}, {Name: "free", Kind: api.Categorical, Invalid: api.Refuse}},
		Method: api.SumOf,
		Segments: []api.Segment{
			{Pred: join(api.Surrogate, ask(api.IsThere, 0), join(api.Xor, yes, no)), Weight: "3/2", Tree: first},
			{Pred: yes, Tree: leaf("7")},
		},
		Target: api.Target{Min: "-1", Max: "100", Factor: "2", Constant: "1/5", Cast: api.CastFloor},
	}
}

func single(t api.Tree) api.Model {
	m := sample()
	m.Segments = []api.Segment{{Pred: yes, Tree: t}}
	return m
}

func TestP2101(t *testing.T) {
	long := strings.Repeat("9", 400)
	for i, c := range []struct {
		change func(m *api.Model)
		want   api.Code
	}{
		{func(m *api.Model) {}, api.OK}, {func(m *api.Model) { *m = api.Model{} }, api.ErrArg}, {func(m *api.Model) { m.Segments = nil }, api.ErrArg},
		{func(m *api.Model) { m.Fields[0].Name = "x\xff" }, api.ErrArg}, {func(m *api.Model) { m.Fields[0].Name = "x\x00" }, api.ErrArg}, {func(m *api.Model) { m.Fields[1].Values[1] = "\uffff" }, api.ErrArg}, {func(m *api.Model) { m.Fields[2].Replace = cat("\xc3") }, api.ErrArg}, {func(m *api.Model) { m.Segments[1].Pred = ask(api.Equal, 1, cat("\x1f")) }, api.ErrArg}, {func(m *api.Model) { m.Segments[0].Tree.Nodes[3].Pred = ask(api.In, 1, cat("a"), cat("\xff")) }, api.ErrArg}, {func(m *api.Model) {
			m.Segments[1].Tree.Nodes[0].Pred = join(api.And, yes, ask(api.Equal, 1, cat("\xff")))
		}, api.ErrArg},
		{func(m *api.Model) { m.Method = api.MinOf }, api.ErrKind}, {func(m *api.Model) { m.Tag = "PROBIT" }, api.ErrKind},
		{func(m *api.Model) { m.Fields[2].Replace = cat(" a") }, api.ErrKind}, {func(m *api.Model) { m.Fields[2].Replace = cat("a\n") }, api.ErrKind}, {func(m *api.Model) { m.Segments[1].Pred = ask(api.Equal, 1, cat("a ")) }, api.ErrKind}, {func(m *api.Model) {
			m.Segments[1].Tree.Nodes[0].Pred = join(api.Or, no, ask(api.NotEqual, 1, cat("\ta")))
		}, api.ErrKind}, {func(m *api.Model) { m.Segments[1].Pred = ask(api.Equal, 1, cat("a b")) }, api.OK},
		{func(m *api.Model) { m.Segments[1].Pred = ask(api.In, 1, cat(" a"), cat("b ")) }, api.OK},
		{func(m *api.Model) { m.Fields[0].Replace = numeral("1/3") }, api.ErrExact}, {func(m *api.Model) { m.Target.Min = "-1/3" }, api.ErrExact}, {func(m *api.Model) { m.Target.Max = "301/3" }, api.ErrExact}, {func(m *api.Model) { m.Target.Factor = "1/7" }, api.ErrExact}, {func(m *api.Model) { m.Target.Constant = "1/7" }, api.ErrExact}, {func(m *api.Model) { m.Segments[0].Weight = "2/3" }, api.ErrExact}, {func(m *api.Model) { m.Segments[0].Tree.Nodes[3].Score = "2/3" }, api.ErrExact}, {func(m *api.Model) { m.Segments[0].Tree.Nodes[1].Count = "2/3" }, api.ErrExact}, {func(m *api.Model) { m.Segments[0].Pred = ask(api.Less, 0, numeral("2/3")) }, api.ErrExact}, {func(m *api.Model) {
			m.Segments[1].Tree.Nodes[0].Pred = join(api.Or, yes, ask(api.In, 0, numeral("1"), numeral("2/3")))
		}, api.ErrExact},
		{func(m *api.Model) { m.Segments[0].Weight = long }, api.OK}, {func(m *api.Model) { m.Segments[0].Weight = long + "9" }, api.ErrExact}, {func(m *api.Model) { m.Segments[0].Weight = long[1:] + "/2" }, api.OK}, {func(m *api.Model) { m.Segments[0].Weight = long + "/2" }, api.ErrExact}, {func(m *api.Model) { m.Segments[1].Tree.Nodes[0].Score = "-" + long }, api.OK}, {func(m *api.Model) { m.Segments[1].Tree.Nodes[0].Score = "1/1" + strings.Repeat("0", 399) }, api.OK}, {func(m *api.Model) { m.Segments[1].Tree.Nodes[0].Score = "1/1" + strings.Repeat("0", 400) }, api.ErrExact},
		{func(m *api.Model) { m.Method, m.Target.Min = api.MinOf, "1/3" }, api.ErrKind}, {func(m *api.Model) { m.Tag, m.Fields[0].Name = "PROBIT", "\xff" }, api.ErrArg},
	} {
		m := sample()
		c.change(&m)
		before := clone.Model(m)
		text, code := Write(m)
		if got := May(m); got != c.want || code != c.want || (code == api.OK) != (text != "") {
			t.Errorf("change %d: %d, %d, not %d", i, got, code, c.want)
		}
		if !model.Same(m, before) {
			t.Errorf("change %d: something is written into", i)
		}
		if code != api.OK {
			continue
		}
		if again, wrong := pmmlin.Read(text); wrong.Code != 0 || !model.Same(again, m) {
			t.Errorf("change %d: %v, %s", i, wrong, text)
		}
	}
}

func TestP2102(t *testing.T) {
	holds := func(m api.Model, whole, part string) {
		t.Helper()
		text, code := Write(m)
		again, _ := Write(clone.Model(m))
		if code != api.OK || text != again || !strings.HasPrefix(text, `<PMML version="4.4"`) || !strings.Contains(text, whole) || strings.Contains(text, part) {
			t.Errorf("%d, %s", code, text)
		}
		if m, wrong := pmmlin.Read(text); wrong.Code != 0 || !strings.Contains(text, "<DataDictionary") || len(m.Fields) != 3 {
			t.Error(wrong, text)
		}
	}
	holds(sample(), "<MiningModel", "nothing of it")
	holds(single(leaf("1")), "<TreeModel", "<MiningModel")
	other := single(leaf("1"))
	other.Segments[0].Weight = "1"
	holds(other, "<MiningModel", "nothing of it")
	other = single(leaf("1"))
	other.Method = api.MaxOf
	holds(other, "<MiningModel", "nothing of it")
	other = single(leaf("1"))
	other.Segments[0].Pred = no
	holds(other, "<MiningModel", "nothing of it")
	wide := api.Tree{Missing: api.SkipIt, NoTrue: api.NoScore, Nodes: []api.Node{node(yes, "", "", -1)}}
	for n := 1; n < 500; n++ {
		wide.Nodes[0].Kids = append(wide.Nodes[0].Kids, n)
		wide.Nodes = append(wide.Nodes, node(yes, strings.Repeat("9", 300), "", -1))
	}
	if text, code := Write(single(wide)); text != "" || code != api.ErrLimit {
		t.Error("too many bytes:", len(text), code)
	}
	var kids []api.Pred
	for range 50 {
		kids = append(kids, yes)
	}
	for n := range wide.Nodes {
		wide.Nodes[n].Score, wide.Nodes[n].Pred = "", join(api.Or, kids...)
	}
	if text, code := Write(single(wide)); text != "" || code != api.ErrLimit {
		t.Error("too many elements:", len(text), code)
	}
}

func TestP2103(t *testing.T) {
	for want, l := range map[string][]string{
		"": nil, "a": {"a"}, `a "b c"`: {"a", "b c"}, `""`: {""}, `"" ""`: {"", ""}, `"\""`: {`"`}, `"\"a\\\"b"`: {`"a\"b`}, `a"b`: {`a"b`}, `a\b`: {`a\b`}, `"a \\b"`: {`a \b`}, "\"\t\" \"\n\" \"\r\"": {"\t", "\n", "\r"}, "é\u00a0": {"é\u00a0"}, `'a'`: {"'a'"}, `\"`: {`\"`},
	} {
		got := Array(l...)
		back, ok := pmmlin.Array(got)
		if got != want || !ok || !slices.Equal(back, l) {
			t.Errorf("Array(%q): %s, %q", l, got, back)
		}
	}
}

// some tells valid predicates of all kinds.
func some(r *rand.Rand, deep int) api.Pred {
	if deep > 1 && r.Intn(2) == 0 {
		var kids []api.Pred
		for range 2 + r.Intn(2) {
			kids = append(kids, some(r, deep-1))
		}
		return join(api.And+r.Intn(4), kids...)
	}
	n := []api.Value{numeral("4"), numeral("5"), numeral("1/2"), numeral("-3/125")}
	c := []api.Value{cat("a"), cat("b c"), cat(""), cat("\"x\\"), cat("é<\r>")}
	r.Shuffle(len(n), func(i, j int) { n[i], n[j] = n[j], n[i] })
	r.Shuffle(len(c), func(i, j int) { c[i], c[j] = c[j], c[i] })
	return []api.Pred{yes, no, ask(api.Less+r.Intn(6), 0, n[0]), ask(api.Equal+r.Intn(2), 1, c[0]), ask(api.In+r.Intn(2), 0, n[:1+r.Intn(4)]...), ask(api.In+r.Intn(2), 1, c[:1+r.Intn(5)]...), ask(api.IsMissing+r.Intn(2), r.Intn(2))}[r.Intn(7)]
}

func someModel(r *rand.Rand) api.Model {
	num := func() string { return []string{"", "1", "2/5", "7", "0"}[r.Intn(5)] }
	m := api.Model{Method: []int{1, 2, 3, 4, 5, 7, 8, 9}[r.Intn(8)]}
	m.Fields = []api.Field{{Name: "x", Kind: api.Continuous, Invalid: 1 + r.Intn(3)}, {Name: "c", Kind: api.Categorical, Invalid: 1 + r.Intn(3)}}
	m.Target = api.Target{Min: []string{"", "-7"}[r.Intn(2)], Max: []string{"", "1/2"}[r.Intn(2)], Factor: num(), Constant: num(), Cast: r.Intn(4)}
	if r.Intn(2) == 0 {
		m.Fields[0].Replace, m.Fields[1].Replace = numeral("5"), cat("b c")
		m.Fields[1].Values = []string{"b c", "a", "é<\r>"}
	}
	for range 1 + r.Intn(3) {
		t := api.Tree{Missing: 1 + r.Intn(6), NoTrue: 2 + r.Intn(2), Nodes: []api.Node{node(some(r, 2), num(), num(), -1)}}
		for n := 1; n < 1+r.Intn(9); n++ {
			up := r.Intn(n)
			t.Nodes[up].Kids = append(t.Nodes[up].Kids, n)
			t.Nodes = append(t.Nodes, node(some(r, 2), num(), num(), -1))
			if r.Intn(2) == 0 {
				t.Nodes[up].Default = n
			}
		}
		m.Segments = append(m.Segments, api.Segment{Pred: some(r, 3), Weight: num(), Tree: t})
	}
	if r.Intn(3) == 0 {
		m.Segments[0].Pred, m.Segments[0].Weight, m.Segments = yes, "", m.Segments[:1]
	}
	return m
}

func TestP2104(t *testing.T) {
	r := rand.New(rand.NewSource(1))
	values := []api.Value{{}, numeral("4"), numeral("5"), numeral("1/3"), cat("a")}
	cats := []api.Value{{}, cat("a"), cat("b c"), cat("zz"), numeral("1")}
	for range 2000 {
		m := someModel(r)
		text, code := Write(m)
		back, wrong := pmmlin.Read(text)
		if code != api.OK || wrong.Code != api.OK {
			t.Fatalf("%+v: %d, %v", m, code, wrong)
		}
		if again, _ := Write(back); again != text && model.Same(back, m) {
			t.Fatal("another text of the same model:", again, text)
		}
		for range 10 {
			row := []api.Value{values[r.Intn(5)], cats[r.Intn(5)]}
			a, codeA := model.Score(m, row)
			b, codeB := model.Score(back, row)
			if !slices.Equal(a.Nums, b.Nums) || codeA != codeB {
				t.Fatalf("%+v of %v: %q, %q", m, row, a.Nums, b.Nums)
			}
		}
		plain, _ := norm.Model(m)
		text, _ = Write(plain)
		if back, wrong := pmmlin.Read(text); wrong.Code != 0 || !model.Same(back, plain) {
			t.Fatalf("%+v is not what is read of %s", plain, text)
		}
	}
}
