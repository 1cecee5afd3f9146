package tree

import (
	"fmt"
	"math/rand"
	"reflect"
	"slices"
	"strings"
	"testing"

	"hornbeam/api"
)

func node(score string, kids ...int) api.Node {
	return api.Node{Pred: api.Pred{Op: api.True}, Score: score, Kids: kids, Default: -1}
}

func of(nodes ...api.Node) api.Tree {
	return api.Tree{Nodes: nodes, Missing: api.SkipIt, NoTrue: api.NoScore}
}

// sample is 0(3(1, 4), 2(5)): numbered out of order.
func sample() api.Tree {
	t := of(node("", 3, 2), node("1"), node("2", 5), node("3", 1, 4), node("4"), node("5"))
	t.Nodes[0].Default, t.Nodes[3].Default = 2, 4
	return t
}

// chain is a tree of one way.
func chain(n int) api.Tree {
	t := of()
	for i := range n - 1 {
		t.Nodes = append(t.Nodes, node("", i+1))
	}
	t.Nodes = append(t.Nodes, node("1"))
	return t
}

// fan is a root with leaves.
func fan(n int) api.Tree {
	t := of(node(""))
	for i := 1; i < n; i++ {
		t.Nodes[0].Kids = append(t.Nodes[0].Kids, i)
		t.Nodes = append(t.Nodes, node("1"))
	}
	return t
}

// misshapen are no trees.
func misshapen() map[string]api.Tree {
	return map[string]api.Tree{
		"a kid that is none": of(node("", 1, 2), node("1")), "a kid below 0": of(node("", -1)), "the root a kid": of(node("", 1), node("", 0)), "its own kid": of(node("", 0)), "twice": of(node("", 1, 1), node("1")), "of two": of(node("", 1, 2), node("", 2), node("")), "nobody's": of(node(""), node("1")), "in a ring": of(node(""), node("", 2), node("", 1)), "alone in a ring": of(node(""), node("", 1)),
	}
}

func TestP1401Valid(t *testing.T) {
	fields := []api.Field{{Name: "x", Kind: api.Continuous, Invalid: 1}}
	for name, tree := range map[string]api.Tree{"a leaf": of(node("1")), "sample": sample(), "no score": of(node("")), "deep": chain(api.MaxDepth), "wide": fan(api.MaxNodes)} {
		if !Valid(tree, fields) {
			t.Error(name, "is not valid")
		}
	}
	for name, tree := range misshapen() {
		if Valid(tree, fields) {
			t.Error(name, "is valid")
		}
	}
	for missing := -1; missing < 9; missing++ {
		for noTrue := -1; noTrue < 9; noTrue++ {
			tree := sample()
			tree.Missing, tree.NoTrue = missing, noTrue
			if want := missing >= 1 && missing <= 6 && (noTrue == api.LastScore || noTrue == api.NoScore); Valid(tree, fields) != want {
				t.Error("Missing and NoTrue:", missing, noTrue, !want)
			}
		}
	}
	if Valid(of(), nil) || Valid(chain(api.MaxDepth+1), nil) || Valid(fan(api.MaxNodes+1), nil) {
		t.Error("beyond the limits one is valid")
	}
	for i, c := range []struct {
		change func(n *api.Node)
		want   bool
	}{
		{func(n *api.Node) { n.Score = "-1/2" }, true}, {func(n *api.Node) { n.Score = "2/4" }, false}, {func(n *api.Node) { n.Score = "1.5" }, false},
		{func(n *api.Node) { n.Count = "0" }, true}, {func(n *api.Node) { n.Count = "1/3" }, true}, {func(n *api.Node) { n.Count = "-1" }, false}, {func(n *api.Node) { n.Count = "x" }, false},
		{func(n *api.Node) { n.Default = 1 }, true}, {func(n *api.Node) { n.Default = 3 }, false}, {func(n *api.Node) { n.Default = 0 }, false}, {func(n *api.Node) { n.Default = -2 }, false}, {func(n *api.Node) { n.Default = 99 }, false},
		{func(n *api.Node) { n.Pred = api.Pred{Op: api.IsThere} }, true}, {func(n *api.Node) { n.Pred = api.Pred{Op: api.IsThere, Field: 1} }, false}, {func(n *api.Node) { n.Pred = api.Pred{} }, false},
	} {
		tree := sample()
		c.change(&tree.Nodes[3])
		if Valid(tree, fields) != c.want {
			t.Error("change", i, !c.want)
		}
	}
}

func walk(t api.Tree, most int) string {
	out := ""
	for n, depth := range Walk(t) {
		out += fmt.Sprint(n, ":", depth, " ")
		if most--; most == 0 {
			break
		}
	}
	return out
}

func paths(t api.Tree, most int) string {
	out := ""
	for way := range Paths(t) {
		out += fmt.Sprint(way)
		if most--; most == 0 {
			break
		}
	}
	return out
}

func TestP1402(t *testing.T) {
	s := sample()
	leaves, ups := "", []int{}
	for n := -1; n < 8; n++ {
		if Leaf(s, n) {
			leaves += fmt.Sprint(n, " ")
		}
		ups = append(ups, Up(s, n))
	}
	if leaves != "1 4 5 " || !slices.Equal(ups, []int{-1, -1, 3, 0, 0, 3, 2, -1, -1}) || Depth(s) != 3 || Depth(of(node(""))) != 1 || Depth(chain(500)) != 500 {
		t.Error(leaves, ups, Depth(s))
	}
	for i, c := range []struct{ got, want string }{
		{walk(s, 0), "0:1 3:2 1:3 4:3 2:2 5:3 "}, {walk(s, 2), "0:1 3:2 "}, {walk(of(node("1")), 0), "0:1 "}, {paths(s, 0), "[0 3 1][0 3 4][0 2 5]"}, {paths(s, 1), "[0 3 1]"}, {paths(of(node("1")), 0), "[0]"}, {paths(fan(3), 0), "[0 1][0 2]"},
	} {
		if c.got != c.want {
			t.Errorf("number %d: %s", i, c.got)
		}
	}
	for name, tree := range misshapen() {
		if Leaf(tree, 0) || Leaf(tree, 1) || Up(tree, 1) != -1 || Depth(tree) != 0 || walk(tree, 0) != "" || paths(tree, 0) != "" {
			t.Error(name, "tells something")
		}
	}
	if Leaf(of(), 0) || Up(of(), 0) != -1 || Depth(of()) != 0 || walk(of(), 0) != "" || paths(of(), 0) != "" {
		t.Error("no nodes tell something")
	}
}

func TestP1402Iterators(t *testing.T) {
	s := sample()
	nodes, ways := Walk(s), Paths(s)
	s.Nodes[0].Kids[0] = 2
	s.Nodes[3].Kids = nil
	for range 2 {
		calls := 0
		nodes(func(int, int) bool { calls++; return calls < 4 })
		told := ""
		ways(func(way []int) bool {
			calls++
			told += fmt.Sprint(way)
			clear(way)
			return calls < 6
		})
		if calls != 6 || told != "[0 3 1][0 3 4]" {
			t.Error("calls behind a false, or a tree that was changed:", calls, told)
		}
	}
	deep := 0
	for way := range Paths(chain(60000)) {
		deep += len(way)
	}
	if deep != 60000 {
		t.Error(deep)
	}
}

func TestP1403Same(t *testing.T) {
	if !Same(sample(), sample()) || !Same(of(node("1")), of(node("1"))) || !Same(api.Tree{}, api.Tree{}) {
		t.Error("not the same")
	}
	for i, change := range []func(s *api.Tree){
		func(s *api.Tree) { s.Missing = 2 }, func(s *api.Tree) { s.NoTrue = api.LastScore }, func(s *api.Tree) { s.Nodes[1].Score = "7" }, func(s *api.Tree) { s.Nodes[1].Count = "7" }, func(s *api.Tree) { s.Nodes[0].Default = -1 }, func(s *api.Tree) { s.Nodes[0].Kids = []int{2, 3} }, func(s *api.Tree) { s.Nodes[4].Pred.Op = api.False },
		func(s *api.Tree) { *s, _ = Order(*s) }, func(s *api.Tree) { s.Nodes = append(s.Nodes, node("6")); s.Nodes[5].Kids = []int{6} },
	} {
		s := sample()
		change(&s)
		if Same(s, sample()) || Same(sample(), s) {
			t.Error("number", i, "is the same")
		}
	}
	for name, tree := range misshapen() {
		if Same(tree, tree) {
			t.Error(name, "is the same")
		}
	}
}

func TestP1403Order(t *testing.T) {
	s := sample()
	got, ok := Order(s)
	want := of(node("", 1, 4), node("3", 2, 3), node("1"), node("4"), node("2", 5), node("5"))
	want.Nodes[0].Default, want.Nodes[1].Default = 4, 3
	if !ok || !Same(got, want) || !Same(s, sample()) {
		t.Error(got, ok)
	}
	if again, _ := Order(got); !Same(again, got) {
		t.Error("another one the second time")
	}
	for from, to := range map[int]int{6: -1, -5: -1, 4: 3, 0: 0} { // a node that is no Kid has its new number, too
		s.Nodes[0].Default = from
		if got, _ := Order(s); got.Nodes[0].Default != to {
			t.Error("a Default of", from, got.Nodes[0].Default)
		}
	}
	s = sample()
	s.Nodes[1].Pred = api.Pred{Op: api.In, Values: []api.Value{{Kind: api.Category, Cat: "a"}}}
	got, _ = Order(s)
	got.Nodes[2].Pred.Values[0].Cat = "spoilt"
	got.Nodes[0].Kids[0] = 9
	if s.Nodes[1].Pred.Values[0].Cat != "a" || s.Nodes[0].Kids[0] != 3 {
		t.Error("what is told shares memory")
	}
	for name, tree := range misshapen() {
		if got, ok := Order(tree); ok || !reflect.DeepEqual(got, api.Tree{}) {
			t.Error(name, got, ok)
		}
	}
	if got, ok := Order(of()); ok || !reflect.DeepEqual(got, api.Tree{}) {
		t.Error("no nodes:", got, ok)
	}
}

func TestAnyShapes(t *testing.T) {
	r := rand.New(rand.NewSource(1))
	good := 0
	for range 20000 {
		s := of()
		size := 1 + r.Intn(5)
		for range size {
			n := node("1")
			for range r.Intn(3) {
				n.Kids = append(n.Kids, r.Intn(size+1))
			}
			s.Nodes = append(s.Nodes, n)
		}
		_, ok := Order(s)
		seen := strings.Count(walk(s, 0), " ")
		if ok != Valid(s, nil) || ok != (Depth(s) > 0) || ok && seen != size || !ok && seen != 0 {
			t.Fatal(s, ok, seen)
		}
		if ok {
			good++
		}
	}
	if good < 100 {
		t.Error("hardly any tree:", good)
	}
}
