package walk

import (
	"fmt"
	"math/big"
	"math/rand"
	"slices"
	"strings"
	"testing"

	"hornbeam/api"
	"hornbeam/logic"
)

func numeral(s string) api.Value { return api.Value{Kind: api.Number, Num: s} }

func ask(op, field int, num string) api.Pred {
	return api.Pred{Op: op, Field: field, Values: []api.Value{numeral(num)}}
}

func node(p api.Pred, score, count string, fallback int, kids ...int) api.Node {
	return api.Node{Pred: p, Score: score, Count: count, Kids: kids, Default: fallback}
}

var (
	yes = api.Pred{Op: api.True}
	no  = api.Pred{Op: api.False}
)

// split is a root (score 9) with x < 5 (score 1, count 1) and x >= 5 (score 2, count 3), with the second one as the Default.
func split(missing, noTrue int) api.Tree {
	return api.Tree{Missing: missing, NoTrue: noTrue, Nodes: []api.Node{node(yes, "9", "", 2, 1, 2), node(ask(api.Less, 0, "5"), "1", "1", -1), node(ask(api.GreatEq, 0, "5"), "2", "3", -1)}}
}

func told(t api.Tree, row ...api.Value) string {
	r, ok := Score(t, row)
	if !ok {
		if r.Text() != "0" {
			return "a number beside a false: " + r.Text()
		}
		return "-"
	}
	return r.Text()
}

func way(t api.Tree, row ...api.Value) string {
	nodes, end := Way(t, row)
	return strings.ReplaceAll(fmt.Sprint(nodes, end), " ", "")
}

func TestP1501(t *testing.T) {
	none := api.Value{}
	type asked struct {
		score, way string
		reach      string
	}
	gap := func(missing, noTrue int) api.Tree {
		s := split(missing, noTrue)
		s.Nodes[2].Pred = ask(api.Great, 0, "5")
		return s
	}
	second := func(missing int) api.Tree { // x is asked ahead of y
		s := split(missing, api.NoScore)
		s.Nodes[2].Pred = ask(api.Equal, 1, "7")
		return s
	}
	noDefault := split(api.ToDefault, api.NoScore)
	noDefault.Nodes[0].Default = -1
	strange := split(api.ToDefault, api.NoScore)
	strange.Nodes[0].Default = 0
	empty := split(api.LastScore, api.LastScore)
	for n := range empty.Nodes {
		empty.Nodes[n].Score = ""
	}
	unread := split(api.SkipIt, api.NoScore)
	unread.Nodes[1].Score = "2/4"
	for i, c := range []struct {
		t    api.Tree
		row  []api.Value
		want asked
	}{
		{split(api.SkipIt, api.NoScore), []api.Value{numeral("7")}, asked{"2", "[02]1", "[2]"}}, {split(api.SkipIt, api.NoScore), []api.Value{numeral("3")}, asked{"1", "[01]1", "[1]"}},
		{split(api.SkipIt, api.NoScore), []api.Value{none}, asked{"-", "[0]3", "[1 2]"}}, {split(api.SkipIt, api.LastScore), []api.Value{none}, asked{"9", "[0]2", "[1 2]"}}, {split(api.LastScore, api.NoScore), []api.Value{none}, asked{"9", "[0]2", "[1 2]"}}, {split(api.NoScore, api.LastScore), []api.Value{none}, asked{"-", "[0]3", "[1 2]"}}, {split(api.ToDefault, api.NoScore), []api.Value{none}, asked{"2", "[02]1", "[1 2]"}},
		{split(api.Weighted, api.NoScore), []api.Value{none}, asked{"7/4", "[0]4", "[1 2]"}}, {split(api.Leaves, api.NoScore), []api.Value{none}, asked{"7/4", "[0]4", "[1 2]"}}, {split(api.Weighted, api.NoScore), []api.Value{numeral("7")}, asked{"2", "[02]1", "[2]"}},
		{split(0, api.NoScore), []api.Value{none}, asked{"-", "[0]3", "[1 2]"}}, {split(7, api.LastScore), []api.Value{none}, asked{"-", "[0]3", "[1 2]"}},
		{gap(api.SkipIt, api.NoScore), []api.Value{numeral("5")}, asked{"-", "[0]3", "[]"}}, {gap(api.NoScore, api.LastScore), []api.Value{numeral("5")}, asked{"9", "[0]2", "[]"}}, {gap(api.Weighted, api.LastScore), []api.Value{numeral("5")}, asked{"9", "[0]2", "[]"}}, {gap(api.Leaves, api.NoScore), []api.Value{numeral("5")}, asked{"-", "[0]3", "[]"}}, {gap(api.SkipIt, 0), []api.Value{numeral("5")}, asked{"-", "[0]3", "[]"}},
		{noDefault, []api.Value{none}, asked{"-", "[0]3", "[1 2]"}}, {strange, []api.Value{none}, asked{"-", "[0]3", "[1 2]"}}, {noDefault, []api.Value{numeral("7")}, asked{"2", "[02]1", "[2]"}},
		{second(api.SkipIt), []api.Value{none, numeral("7")}, asked{"2", "[02]1", "[1 2]"}}, {second(api.NoScore), []api.Value{none, numeral("7")}, asked{"-", "[0]3", "[1 2]"}}, {second(api.NoScore), []api.Value{numeral("1"), none}, asked{"1", "[01]1", "[1]"}}, {second(api.SkipIt), []api.Value{none, numeral("8")}, asked{"-", "[0]3", "[1]"}}, {second(api.LastScore), []api.Value{numeral("6"), none}, asked{"9", "[0]2", "[2]"}},
		{empty, []api.Value{none}, asked{"-", "[0]2", "[1 2]"}}, {empty, []api.Value{numeral("1")}, asked{"-", "[01]1", "[1]"}}, {unread, []api.Value{numeral("1")}, asked{"-", "[01]1", "[1]"}},
	} {
		got := asked{told(c.t, c.row...), way(c.t, c.row...), fmt.Sprint(Reach(c.t, c.row))}
		if got != c.want {
			t.Errorf("number %d: %v, not %v", i, got, c.want)
		}
	}
}

func TestP1501Root(t *testing.T) {
	for _, root := range []api.Pred{no, ask(api.Less, 0, "1"), ask(api.Less, 5, "1"), {}} {
		s := split(api.ToDefault, api.LastScore)
		s.Nodes[0].Pred = root
		f, ok := Flatten(s)
		if told(s, numeral("7")) != "-" || way(s, numeral("7")) != "[]3" || len(Reach(s, []api.Value{numeral("7")})) != 0 || !ok {
			t.Error(logic.Text(root), told(s, numeral("7")), way(s, numeral("7")))
		}
		if _, is := f.Score([]api.Value{numeral("7")}); is {
			t.Error(logic.Text(root))
		}
	}
	for i, s := range []api.Tree{{}, {Nodes: []api.Node{node(yes, "1", "", -1, 1)}}, {Nodes: []api.Node{node(yes, "1", "", -1), node(yes, "1", "", -1)}}, {Nodes: []api.Node{node(yes, "1", "", -1, 0)}}} {
		f, ok := Flatten(s)
		if told(s) != "-" || way(s) != "[]3" || len(Reach(s, nil)) != 0 || f != nil || ok {
			t.Error("no tree's shape:", i, told(s), way(s), ok)
		}
	}
	leaf := api.Tree{Nodes: []api.Node{node(yes, "-3/2", "", -1)}}
	if told(leaf) != "-3/2" || way(leaf) != "[0]1" {
		t.Error("a leaf:", told(leaf), way(leaf))
	}
}

// wide is a root with five kids: No, Unknown (inner: Unknown and Yes), Yes, Unknown without a count, Unknown.
func wide(missing int) api.Tree {
	u := ask(api.Less, 0, "5")
	return api.Tree{Missing: missing, NoTrue: api.LastScore, Nodes: []api.Node{
		node(yes, "9", "7", -1, 1, 2, 5, 6, 7), node(no, "100", "100", -1), node(u, "50", "2", -1, 3, 4), node(u, "1", "1", -1), node(yes, "3", "3", -1), node(yes, "10", "1", -1), node(u, "77", "", -1), node(u, "4", "5", -1),
	}}
}

func TestP1502(t *testing.T) {
	none := []api.Value{{}}
	if got := fmt.Sprint(told(wide(api.Weighted), none...), way(wide(api.Weighted), none...), Reach(wide(api.Weighted), none)); got != "35/8[0]4[3 4 5 6 7]" { // (2 times 5/2, 10, 5 times 4) by 8
		t.Error(got)
	}
	if got := told(wide(api.Leaves), none...); got != "4" { // (1, 9, 10, 20) by 10
		t.Error(got)
	}
	for name, c := range map[string]struct {
		change         func(s *api.Tree)
		weighted, each string
	}{
		"no counts":        {func(s *api.Tree) { s.Nodes[2].Count, s.Nodes[5].Count, s.Nodes[7].Count = "", "", "" }, "-", "5/2"},
		"counts of 0":      {func(s *api.Tree) { s.Nodes[2].Count, s.Nodes[5].Count, s.Nodes[7].Count = "0", "0", "0" }, "-", "5/2"},
		"counts below 0":   {func(s *api.Tree) { s.Nodes[7].Count, s.Nodes[5].Count = "-1", "x" }, "5/2", "5/2"},
		"a leaf of none":   {func(s *api.Tree) { s.Nodes[7].Score = "" }, "5", "4"},
		"a result of none": {func(s *api.Tree) { s.Nodes[3].Count, s.Nodes[4].Count = "", "" }, "5", "5"},
		"no leaf counts": {func(s *api.Tree) {
			s.Nodes[3].Count, s.Nodes[4].Count, s.Nodes[5].Count, s.Nodes[7].Count = "", "", "", ""
		}, "-", "-"},
		"fractions":        {func(s *api.Tree) { s.Nodes[2].Count, s.Nodes[5].Count, s.Nodes[7].Count = "1/2", "1/3", "1/6" }, "63/12", "28/9"},
		"yes ahead":        {func(s *api.Tree) { s.Nodes[2].Pred = yes }, "5/2", "5/2"},
		"none taken below": {func(s *api.Tree) { s.Nodes[3].Pred, s.Nodes[4].Pred = no, no }, "65/4", "5"},
	} {
		weighted, each := wide(api.Weighted), wide(api.Leaves)
		c.change(&weighted)
		c.change(&each)
		w, _ := new(big.Rat).SetString(c.weighted)
		e, _ := new(big.Rat).SetString(c.each)
		if !isTold(told(weighted, none...), w) || !isTold(told(each, none...), e) {
			t.Errorf("%s: %s, %s", name, told(weighted, none...), told(each, none...))
		}
	}
}

// isTold tells whether a text is that of a number (of none: `-`).
func isTold(text string, want *big.Rat) bool {
	if want == nil {
		return text == "-"
	}
	return text == strings.TrimSuffix(want.String(), "/1")
}

// plain is what the words of the chapter say, step by step.
type plain struct {
	t   api.Tree
	row []api.Value
}

func (p plain) truth(n int) int { return logic.Eval(p.t.Nodes[n].Pred, p.row) }

func (p plain) own(n int) *big.Rat {
	if p.t.Nodes[n].Score == "" {
		return nil
	}
	r, _ := new(big.Rat).SetString(p.t.Nodes[n].Score)
	return r
}

func (p plain) result(n int) *big.Rat {
	node := p.t.Nodes[n]
	if len(node.Kids) == 0 {
		return p.own(n)
	}
	for _, kid := range node.Kids {
		switch p.truth(kid) {
		case api.Yes:
			return p.result(kid)
		case api.Unknown:
			switch p.t.Missing {
			case api.LastScore:
				return p.own(n)
			case api.NoScore:
				return nil
			case api.ToDefault:
				if node.Default < 0 {
					return nil
				}
				return p.result(node.Default)
			case api.Weighted:
				var scores, counts []*big.Rat
				for _, k := range node.Kids {
					if r := p.result(k); r != nil && p.truth(k) != api.No {
						scores, counts = append(scores, r), append(counts, p.count(k))
					}
				}
				return p.mean(scores, counts)
			case api.Leaves:
				var scores, counts []*big.Rat
				for _, leaf := range p.reach(n) {
					if r := p.own(leaf); r != nil {
						scores, counts = append(scores, r), append(counts, p.count(leaf))
					}
				}
				return p.mean(scores, counts)
			}
		}
	}
	if p.t.NoTrue == api.LastScore {
		return p.own(n)
	}
	return nil
}

func (p plain) count(n int) *big.Rat {
	r, _ := new(big.Rat).SetString("0" + p.t.Nodes[n].Count)
	return r
}

func (p plain) mean(scores, counts []*big.Rat) *big.Rat {
	sum, all := new(big.Rat), new(big.Rat)
	for i, c := range counts {
		sum.Add(sum, new(big.Rat).Mul(scores[i], c))
		all.Add(all, c)
	}
	if all.Sign() == 0 {
		return nil
	}
	return sum.Quo(sum, all)
}

func (p plain) reach(n int) []int {
	kids := p.t.Nodes[n].Kids
	if len(kids) == 0 {
		return []int{n}
	}
	var out []int
	for _, kid := range kids {
		switch p.truth(kid) {
		case api.Yes:
			if out == nil {
				return p.reach(kid)
			}
			out = append(out, p.reach(kid)...)
		case api.Unknown:
			out = append(out, p.reach(kid)...)
			if out == nil {
				out = []int{}
			}
		}
	}
	return out
}

// some tells trees whose predicates have all truths.
func some(r *rand.Rand) api.Tree {
	preds := []api.Pred{yes, no, ask(api.Less, 0, "5"), ask(api.GreatEq, 0, "5"), ask(api.Less, 1, "5"), ask(api.GreatEq, 1, "5")}
	t := api.Tree{Missing: 1 + r.Intn(6), NoTrue: 2 + r.Intn(2), Nodes: []api.Node{node(yes, "9", "", -1)}}
	for n := 1; n < 2+r.Intn(14); n++ {
		up := r.Intn(n)
		t.Nodes[up].Kids = append(t.Nodes[up].Kids, n)
		t.Nodes = append(t.Nodes, node(preds[r.Intn(len(preds))], []string{"", "1", "2/3", "-7"}[r.Intn(4)], []string{"", "0", "1", "5", "1/2"}[r.Intn(5)], -1))
	}
	for n := range t.Nodes {
		if kids := t.Nodes[n].Kids; len(kids) > 0 && r.Intn(4) > 0 {
			t.Nodes[n].Default = kids[r.Intn(len(kids))]
		}
	}
	return t
}

func TestByTheWords(t *testing.T) {
	r := rand.New(rand.NewSource(1))
	values := []api.Value{{}, numeral("1"), numeral("5")}
	ends := map[int]int{}
	for range 20000 {
		s := some(r)
		row := []api.Value{values[r.Intn(3)], values[r.Intn(3)]}
		p := plain{s, row}
		got := told(s, row...)
		if want := p.result(0); !isTold(got, want) {
			t.Fatalf("%+v of %v: %s, not %v", s, row, got, want)
		}
		f, _ := Flatten(s)
		if flat, is := f.Score(row); is != (got != "-") || is && flat.Text() != got {
			t.Fatalf("%+v of %v: flat %s, not %s", s, row, flat.Text(), got)
		}
		want := p.reach(0)
		slices.Sort(want)
		if got := Reach(s, row); !slices.Equal(got, want) {
			t.Fatalf("%+v of %v reaches %v, not %v", s, row, got, want)
		}
		nodes, end := Way(s, row)
		ends[end]++
		last := s.Nodes[nodes[len(nodes)-1]]
		for i := 1; i < len(nodes); i++ {
			if !slices.Contains(s.Nodes[nodes[i-1]].Kids, nodes[i]) {
				t.Fatal("no way:", nodes)
			}
		}
		if nodes[0] != 0 || end == Nothing && got != "-" || (end == Reached) != (len(last.Kids) == 0) || end == Stopped && got != last.Score && got+last.Score != "-" {
			t.Fatalf("%+v of %v: %v, %d", s, row, nodes, end)
		}
	}
	if len(ends) != 4 {
		t.Error("not all ends:", ends)
	}
}

func TestP1503(t *testing.T) {
	s := split(api.SkipIt, api.NoScore)
	f, ok := Flatten(s)
	if !ok {
		t.Fatal("no Flat")
	}
	s.Nodes[2].Score = "77"
	s.Nodes[2].Pred.Values[0] = numeral("99")
	s.Nodes[0].Kids[1] = 1
	if r, is := f.Score([]api.Value{numeral("7")}); r.Text() != "2" || !is {
		t.Error("a Flat shares memory:", r.Text(), is)
	}
	var none *Flat
	if r, is := none.Score(nil); is || r.Text() != "0" {
		t.Error("a nil Flat:", r.Text(), is)
	}
	if r, is := new(Flat).Score(nil); is || r.Text() != "0" {
		t.Error("a zero Flat:", r.Text(), is)
	}
}
