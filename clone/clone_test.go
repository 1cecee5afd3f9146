package clone

import (
	"reflect"
	"testing"

	"hornbeam/api"
)

func sample() api.Model {
	ask := api.Pred{Op: api.In, Values: []api.Value{{Kind: api.Number, Num: "1"}, {}}}
	both := api.Pred{Op: api.And, Kids: []api.Pred{ask, {Op: api.True}}}
	nodes := []api.Node{{Pred: both, Score: "1", Kids: []int{1}, Default: 1}, {Pred: ask, Count: "2", Default: -1}}
	return api.Model{Fields: []api.Field{{Name: "x", Values: []string{"a", "b"}}, {}}, Method: api.SumOf, Segments: []api.Segment{{Pred: both, Weight: "1/2", Tree: api.Tree{Nodes: nodes, Missing: 1, NoTrue: 2}}}, Target: api.Target{Min: "1"}, Tag: "PROBIT"}
}

func TestModel(t *testing.T) {
	m := sample()
	c := Model(m)
	if !reflect.DeepEqual(m, sample()) || len(c.Segments) != 1 {
		t.Fatal("a copy is another one")
	}
	c.Fields[0].Values[0] = "spoilt"
	c.Fields[1].Name = "spoilt"
	s := &c.Segments[0]
	s.Pred.Kids[0].Values[0].Num = "spoilt"
	s.Pred.Kids[1].Op = api.False
	s.Tree.Nodes[0].Pred.Kids[0].Values[0].Num = "spoilt"
	s.Tree.Nodes[0].Kids[0] = 7
	s.Tree.Nodes[1].Pred.Values[1].Kind = 7
	s.Tree.Nodes[1].Score = "spoilt"
	s.Weight = "spoilt"
	fresh := sample()
	fresh.Segments[0].Tree.Nodes[1].Pred.Values = m.Segments[0].Tree.Nodes[1].Pred.Values
	if !reflect.DeepEqual(m, fresh) {
		t.Error("a copy shares memory")
	}
	if m.Segments[0].Tree.Nodes[1].Pred.Values[1].Kind != api.Missing {
		t.Error("a copy shares values")
	}
}
