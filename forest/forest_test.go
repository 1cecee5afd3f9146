package forest

import (
	"fmt"
	"slices"
	"strings"
	"testing"

	"hornbeam/api"
)

func leaf(score string) api.Tree {
	return api.Tree{Missing: api.SkipIt, NoTrue: api.NoScore, Nodes: []api.Node{{Pred: api.Pred{Op: api.True}, Score: score, Default: -1}}}
}

func less(num string) api.Pred {
	return api.Pred{Op: api.Less, Values: []api.Value{{Kind: api.Number, Num: num}}}
}

func segment(p api.Pred, weight, score string) api.Segment {
	return api.Segment{Pred: p, Weight: weight, Tree: leaf(score)}
}

func fields() []api.Field {
	return []api.Field{{Name: "x", Kind: api.Continuous, Invalid: api.Refuse}}
}

func row(num string) []api.Value { return []api.Value{{Kind: api.Number, Num: num}} }

func sample() []api.Segment {
	return []api.Segment{segment(less("5"), "2", "1"), segment(less("3"), "", "10"), segment(less("9"), "1/2", "-4")}
}

func TestP1601Valid(t *testing.T) {
	wide := func(n int) api.Segment {
		s := segment(less("1"), "", "1")
		for i := 1; i < n; i++ {
			s.Tree.Nodes[0].Kids = append(s.Tree.Nodes[0].Kids, i)
			s.Tree.Nodes = append(s.Tree.Nodes, leaf("1").Nodes[0])
		}
		return s
	}
	for method := -1; method < 12; method++ {
		if want := method >= 1 && method <= 9; Valid(method, sample(), fields()) != want {
			t.Error("method", method, !want)
		}
	}
	for name, c := range map[string]struct {
		l    []api.Segment
		want bool
	}{
		"none": {nil, false}, "one": {sample()[:1], true}, "100": {slices.Repeat(sample()[:1], 100), true}, "101": {slices.Repeat(sample()[:1], 101), false},
		"weight 0": {[]api.Segment{segment(less("1"), "0", "1")}, true}, "weight below": {[]api.Segment{segment(less("1"), "-1", "1")}, false}, "no weight": {[]api.Segment{segment(less("1"), "2/4", "1")}, false},
		"no predicate": {[]api.Segment{segment(api.Pred{}, "", "1")}, false}, "no field": {[]api.Segment{segment(api.Pred{Op: api.IsThere, Field: 1}, "", "1")}, false}, "no tree": {[]api.Segment{sample()[0], {Pred: less("1")}}, false}, "no score": {append(sample(), segment(less("1"), "", "x")), false},
		"2000 nodes": {[]api.Segment{wide(1500), wide(500)}, true}, "2001 nodes": {[]api.Segment{wide(1500), wide(501)}, false},
	} {
		if Valid(api.SumOf, c.l, fields()) != c.want {
			t.Error(name, !c.want)
		}
	}
}

func told(l []api.Segment, row []api.Value, most int) string {
	out := ""
	for i, num := range Each(l, row) {
		out += fmt.Sprintf("%d:%s ", i, num)
		if most--; most == 0 {
			break
		}
	}
	return out
}

func TestP1601Active(t *testing.T) {
	for num, want := range map[string]string{"1": "[0 1 2] 0:1 1:10 2:-4 ", "4": "[0 2] 0:1 2:-4 ", "7": "[2] 2:-4 ", "9": "[] ", "x": "[] "} {
		if got := fmt.Sprint(Active(sample(), row(num)), " ", told(sample(), row(num), 0)); got != want {
			t.Errorf("%s: %s, not %s", num, got, want)
		}
	}
	l := sample()
	l[1].Tree = leaf("")
	if got := told(l, row("1"), 2); got != "0:1 1: " {
		t.Error(got)
	}
	if told(nil, nil, 0) != "" || len(Active(nil, nil)) != 0 {
		t.Error("of none some")
	}
	asked := row("1")
	seq := Each(l, asked)
	l[0].Tree.Nodes[0].Score = "77"
	l[2].Pred.Op = api.False
	asked[0].Num = "8"
	for range 2 {
		calls, got := 0, ""
		seq(func(i int, num string) bool { calls++; got += fmt.Sprint(i, num, " "); return calls < 2 })
		if calls != 2 || got != "01 1 " {
			t.Error("calls behind a false, or what was changed:", calls, got)
		}
	}
}

func TestP1602(t *testing.T) {
	none, l := []string{""}, func(s ...string) []string { return s }
	for i, c := range []struct {
		method             int
		nums, weights, out []string
	}{
		{api.SelectAll, nil, nil, nil}, {api.SelectAll, l("1", "", "1/2"), nil, l("1", "", "1/2")}, {api.SelectAll, l("1", "x"), nil, l("1", "")},
		{api.SelectFirst, nil, nil, none}, {api.SelectFirst, l("7", "", "1"), nil, l("7")}, {api.SelectFirst, l("", "1"), nil, none}, {api.SelectFirst, l("2/4", "1"), nil, none},
		{api.Chain, nil, nil, none}, {api.Chain, l("7", "", "1"), nil, l("1")}, {api.Chain, l("1", ""), nil, none}, {api.Chain, l("1", "1.5"), nil, none},
		{api.SumOf, l("1", "1/2", "-3"), nil, l("-3/2")}, {api.SumOf, l("5"), nil, l("5")}, {api.AverageOf, l("1", "2", "4"), nil, l("7/3")},
		{api.WeightedOf, l("1", "3"), l("1", "3"), l("5/2")}, {api.WeightedOf, l("1", "3"), nil, l("2")}, {api.WeightedOf, l("1", "3"), l("3"), l("3/2")}, {api.WeightedOf, l("1", "3"), l("", "3"), l("5/2")}, {api.WeightedOf, l("1", "3"), l("x", "2/4"), l("2")}, {api.WeightedOf, l("1", "3"), l("0", "0"), none}, {api.WeightedOf, l("1", "3"), l("1", "-1"), none}, {api.WeightedOf, l("1", "3"), l("0", "2", "9"), l("3")}, {api.WeightedOf, l("1", "3"), l("-1", "2"), l("5")},
		{api.MedianOf, l("1", "5", "2", "9"), nil, l("7/2")}, {api.MedianOf, l("9", "-1", "1/2"), nil, l("1/2")}, {api.MedianOf, l("4"), nil, l("4")}, {api.MedianOf, l("10", "9"), nil, l("19/2")}, {api.MedianOf, l("3", "1", "3", "1", "2"), nil, l("2")},
		{api.MaxOf, l("1", "10", "9"), nil, l("10")}, {api.MinOf, l("-1", "-10", "9"), nil, l("-10")}, {api.MaxOf, l("-1/2", "-1/3"), nil, l("-1/3")},
		{0, l("1"), nil, none}, {10, l("1"), nil, none}, {-1, nil, nil, none},
	} {
		nums := slices.Clone(c.nums)
		if got := Join(c.method, c.nums, c.weights); !slices.Equal(got.Nums, c.out) || !slices.Equal(nums, c.nums) {
			t.Errorf("number %d: %q, not %q", i, got.Nums, c.out)
		}
	}
	for method := api.SumOf; method <= api.MinOf; method++ {
		for _, nums := range [][]string{nil, l(""), l("1", "", "2"), l("1", "x"), l("2/4")} {
			if got := Join(method, nums, l("1", "1", "1")); !slices.Equal(got.Nums, none) {
				t.Errorf("method %d of %q: %q", method, nums, got.Nums)
			}
		}
	}
	nums := l("1", "2")
	Join(api.SelectAll, nums, nil).Nums[0] = "spoilt"
	if nums[0] != "1" {
		t.Error("what is told shares memory")
	}
}

func TestP1603(t *testing.T) {
	for method, want := range map[int]string{api.SumOf: "7 -3 -4  ", api.AverageOf: "7/3 -3/2 -4  ", api.WeightedOf: "20/7 0 -4  ", api.MedianOf: "1 -3/2 -4  ", api.MaxOf: "10 1 -4  ", api.MinOf: "-4 -4 -4  ", api.SelectFirst: "1 1 -4  ", api.SelectAll: "1,10,-4 1,-4 -4  ", api.Chain: "-4 -4 -4  "} {
		got := ""
		for _, num := range []string{"1", "4", "7", "9"} {
			got += strings.Join(Score(method, sample(), row(num)).Nums, ",") + " "
		}
		if got != want {
			t.Errorf("method %d: %q, not %q", method, got, want)
		}
	}
	l := sample()
	l[1].Tree = leaf("")
	if got := Score(api.SumOf, l, row("1")); !slices.Equal(got.Nums, []string{""}) {
		t.Error("with one of nothing:", got)
	}
	if got := Score(api.SumOf, l, row("4")); !slices.Equal(got.Nums, []string{"-3"}) {
		t.Error("the one of nothing does not count:", got)
	}
}
