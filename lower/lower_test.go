package lower

import (
	"fmt"
	"math"
	"math/rand"
	"slices"
	"testing"

	"hornbeam/api"
	"hornbeam/ieee"
	"hornbeam/model"
	"hornbeam/onnx"
	"hornbeam/onnxio"
	"hornbeam/onnxrun"
	"hornbeam/ops"
	"hornbeam/rat"
	"hornbeam/value"
)

func bits(v float64) uint64 { return uint64(math.Float32bits(float32(v))) }

func numeral(s string) api.Value { return api.Value{Kind: api.Number, Num: s} }

func ask(op, field int, num string) api.Pred {
	return api.Pred{Op: op, Field: field, Values: []api.Value{numeral(num)}}
}

var yes = api.Pred{Op: api.True}

func node(p api.Pred, score string, fallback int, kids ...int) api.Node {
	return api.Node{Pred: p, Score: score, Default: fallback, Kids: kids}
}

func segment(nodes ...api.Node) api.Segment {
	return api.Segment{Pred: yes, Tree: api.Tree{Missing: api.ToDefault, NoTrue: api.LastScore, Nodes: nodes}}
}

func field(name string) api.Field {
	return api.Field{Name: name, Kind: api.Continuous, Invalid: api.Refuse}
}

// sample is numbered out of order: 0 (x1 < 1/10: 3, x1 >= 1/10: 1 (x0 == 2: 4, x0 != 2: 2)), and a leaf.
func sample() api.Model {
	return api.Model{
		Fields: []api.Field{field("x"), field("y"), field("z")}, Method: api.SumOf, Target: api.Target{Constant: "1/2"}, Tag: "LOGISTIC",
		Segments: []api.Segment{
			segment(node(yes, "", 1, 3, 1), node(ask(api.GreatEq, 1, "1/10"), "9", 4, 4, 2), node(ask(api.NotEqual, 0, "2"), "3", -1), node(ask(api.Less, 1, "1/10"), "1", -1), node(ask(api.Equal, 0, "2"), "-5/4", -1)),
			segment(node(yes, "0", -1)),
		},
	}
}

func TestP2601(t *testing.T) {
	want := func(change func(e *api.Ensemble)) api.Ensemble {
		e := api.Ensemble{
			Features: 2, Targets: 1, Aggregate: "SUM", Post: "LOGISTIC", Base: []uint64{bits(0.5)},
			Nodes: []api.ENode{
				{Node: 0, Mode: api.BranchLEQ, Feature: 1, Value: 0x3dcccccc, True: 1, False: 2}, {Node: 1, Mode: api.Leaf}, {Node: 2, Mode: api.BranchEQ, Value: bits(2), True: 3, False: 4, Tracks: true}, {Node: 3, Mode: api.Leaf}, {Node: 4, Mode: api.Leaf}, {Tree: 1, Mode: api.Leaf},
			},
			Leaves: []api.ELeaf{{Node: 1, Weight: bits(1)}, {Node: 3, Weight: bits(-1.25)}, {Node: 4, Weight: bits(3)}, {Tree: 1}},
		}
		change(&e)
		return e
	}
	for i, c := range []struct {
		model    func(m *api.Model)
		ensemble func(e *api.Ensemble)
	}{
		{func(m *api.Model) {}, func(e *api.Ensemble) {}},
		{func(m *api.Model) { m.Method = api.AverageOf }, func(e *api.Ensemble) { e.Aggregate = "AVERAGE" }}, {func(m *api.Model) { m.Method = api.MaxOf }, func(e *api.Ensemble) { e.Aggregate = "MAX" }}, {func(m *api.Model) { m.Method = api.MinOf }, func(e *api.Ensemble) { e.Aggregate = "MIN" }},
		{func(m *api.Model) { m.Tag = "" }, func(e *api.Ensemble) { e.Post = "NONE" }}, {func(m *api.Model) { m.Target.Constant = "" }, func(e *api.Ensemble) { e.Base = nil }}, {func(m *api.Model) { m.Target.Constant = "0" }, func(e *api.Ensemble) { e.Base = nil }},
		{func(m *api.Model) { m.Segments[0].Tree.Nodes[0].Default = 3 }, func(e *api.Ensemble) { e.Nodes[0].Tracks = true }}, {func(m *api.Model) { m.Segments[0].Tree.Nodes[0].Kids = []int{1, 3} }, func(e *api.Ensemble) {
			e.Nodes = append([]api.ENode{{Mode: api.BranchGTE, Feature: 1, Value: 0x3dcccccd, True: 1, False: 4, Tracks: true}, {Node: 1, Mode: api.BranchEQ, Value: bits(2), True: 2, False: 3, Tracks: true}, {Node: 2, Mode: api.Leaf}, {Node: 3, Mode: api.Leaf}, {Node: 4, Mode: api.Leaf}}, e.Nodes[5])
			e.Leaves = []api.ELeaf{{Node: 2, Weight: bits(-1.25)}, {Node: 3, Weight: bits(3)}, {Node: 4, Weight: bits(1)}, {Tree: 1}}
		}},
		{func(m *api.Model) { m.Segments = m.Segments[1:]; m.Segments[0].Tree.Missing = api.SkipIt }, func(e *api.Ensemble) {
			e.Features, e.Nodes, e.Leaves = 0, []api.ENode{{Mode: api.Leaf}}, []api.ELeaf{{}}
		}},
		{func(m *api.Model) { m.Fields[0].Invalid, m.Segments[0].Tree.NoTrue = api.AsIs, api.NoScore }, func(e *api.Ensemble) {}},
	} {
		m := sample()
		c.model(&m)
		got, code, word := Ensemble(m)
		if code != api.OK || word != "" || !onnx.Same(got, want(c.ensemble)) {
			t.Errorf("number %d: %+v, %d, %q", i, got, code, word)
		}
		b, code := onnxio.Write(got)
		if back, wrong := onnxio.Read(b); code != api.OK || wrong.Code != api.OK || !onnx.Same(back, got) {
			t.Errorf("number %d: %d, %v", i, code, wrong)
		}
	}
}

func TestP2601Refused(t *testing.T) {
	type change = func(m *api.Model)
	nodes := func(f func(n []api.Node)) change { return func(m *api.Model) { f(m.Segments[0].Tree.Nodes) } }
	for i, c := range []struct {
		change change
		code   api.Code
		word   string
	}{
		{func(m *api.Model) { *m = api.Model{} }, api.ErrArg, "model"}, {func(m *api.Model) { m.Fields[0].Kind, m.Tag = api.Categorical, "x" }, api.ErrArg, "model"},
		{func(m *api.Model) { m.Fields[2].Kind = api.Categorical }, api.ErrKind, "field"}, {func(m *api.Model) { m.Fields[2].Replace = numeral("1") }, api.ErrKind, "field"},
		{func(m *api.Model) { m.Method = api.WeightedOf }, api.ErrKind, "method"}, {func(m *api.Model) { m.Method = api.Chain }, api.ErrKind, "method"}, {func(m *api.Model) { m.Method = api.MedianOf }, api.ErrKind, "method"},
		{func(m *api.Model) { m.Target.Min = "0" }, api.ErrKind, "target"}, {func(m *api.Model) { m.Target.Max = "0" }, api.ErrKind, "target"}, {func(m *api.Model) { m.Target.Factor = "1" }, api.ErrKind, "target"}, {func(m *api.Model) { m.Target.Cast = 1 }, api.ErrKind, "target"},
		{func(m *api.Model) { m.Segments[1].Weight = "1" }, api.ErrKind, "segment"}, {func(m *api.Model) { m.Segments[0].Pred.Op = api.False }, api.ErrKind, "segment"}, {func(m *api.Model) { m.Segments[0].Pred = ask(api.Less, 0, "1") }, api.ErrKind, "segment"},
		{func(m *api.Model) { m.Segments[0].Tree.Missing = api.SkipIt }, api.ErrKind, "missing"}, {func(m *api.Model) { m.Segments[0].Tree.Missing = api.Weighted }, api.ErrKind, "missing"},
		{func(m *api.Model) { m.Segments[1].Tree.Nodes[0].Pred.Op = api.False }, api.ErrKind, "root"}, {nodes(func(n []api.Node) { n[0].Pred = ask(api.IsThere, 0, "1"); n[0].Pred.Values = nil }), api.ErrKind, "root"},
		{nodes(func(n []api.Node) { n[3].Pred = ask(api.Less, 0, "1/10") }), api.ErrKind, "kids"}, {nodes(func(n []api.Node) { n[3].Pred = ask(api.Less, 1, "1/9") }), api.ErrKind, "kids"}, {nodes(func(n []api.Node) { n[3].Pred = ask(api.LessEq, 1, "1/10") }), api.ErrKind, "kids"}, {nodes(func(n []api.Node) { n[3].Pred = yes }), api.ErrKind, "kids"}, {nodes(func(n []api.Node) { n[1].Pred = yes }), api.ErrKind, "kids"}, {nodes(func(n []api.Node) { n[4].Pred = ask(api.In, 0, "2") }), api.ErrKind, "kids"}, {nodes(func(n []api.Node) { n[2].Pred = n[4].Pred }), api.ErrKind, "kids"},
		{func(m *api.Model) {
			m.Segments[1] = segment(node(yes, "", 1, 1), node(ask(api.Less, 0, "1"), "1", -1))
		}, api.ErrKind, "kids"},
		{func(m *api.Model) {
			m.Segments[1] = segment(node(yes, "", 1, 1, 2, 3), node(ask(api.Less, 0, "1"), "1", -1), node(ask(api.GreatEq, 0, "1"), "1", -1), node(yes, "1", -1))
		}, api.ErrKind, "kids"},
		{nodes(func(n []api.Node) { n[0].Default = -1 }), api.ErrKind, "default"}, {nodes(func(n []api.Node) { n[1].Default = -1 }), api.ErrKind, "default"},
		{nodes(func(n []api.Node) { n[3].Score = "" }), api.ErrKind, "score"}, {func(m *api.Model) { m.Segments[1].Tree.Nodes[0].Score = "" }, api.ErrKind, "score"},
		{func(m *api.Model) { m.Target.Constant = "1/10" }, api.ErrExact, "constant"}, {nodes(func(n []api.Node) { n[3].Score = "1/10" }), api.ErrExact, "score"}, {nodes(func(n []api.Node) { n[4].Score = "16777217" }), api.ErrExact, "score"},
		// the first one that is so
		{func(m *api.Model) { m.Target.Constant, m.Segments[0].Tree.Nodes[3].Score = "1/10", "1/10" }, api.ErrExact, "constant"}, {func(m *api.Model) { m.Target.Constant, m.Segments[0].Tree.Nodes[3].Score = "1/10", "" }, api.ErrKind, "score"}, {func(m *api.Model) {
			m.Segments[0].Tree.Nodes[0].Default, m.Segments[1].Tree.Nodes[0].Pred.Op = -1, api.False
		}, api.ErrKind, "root"}, {func(m *api.Model) { m.Method, m.Target.Cast = api.Chain, 1 }, api.ErrKind, "method"}, {func(m *api.Model) { m.Segments[0].Tree.Missing, m.Segments[1].Weight = 1, "2" }, api.ErrKind, "segment"},
	} {
		m := sample()
		c.change(&m)
		if e, code, word := Ensemble(m); code != c.code || word != c.word || !onnx.Same(e, api.Ensemble{}) {
			t.Errorf("change %d: %d, %q, not %d, %q", i, code, word, c.code, c.word)
		}
		if row, ok := Row(m, make([]api.Value, len(m.Fields))); ok || len(row) > 0 {
			t.Errorf("change %d: a row of no ensemble", i)
		}
	}
	m := sample()
	m.Segments[0].Tree.Nodes[1].Score = "1/10" // an inner node's is not asked
	if _, code, _ := Ensemble(m); code != api.OK {
		t.Error(code)
	}
}

func TestP2602(t *testing.T) {
	const least, greatest, beyond = 0xff7fffff, 0x7f7fffff, "340282346638528859811704183484516925441"
	for i, c := range []struct {
		op   int
		r    string
		mode int
		bits uint64
	}{
		{api.Less, "3/2", api.BranchLT, bits(1.5)}, {api.LessEq, "3/2", api.BranchLEQ, bits(1.5)}, {api.Equal, "3/2", api.BranchEQ, bits(1.5)}, {api.NotEqual, "3/2", api.BranchNEQ, bits(1.5)}, {api.GreatEq, "3/2", api.BranchGTE, bits(1.5)}, {api.Great, "3/2", api.BranchGT, bits(1.5)}, {api.Less, "0", api.BranchLT, 0},
		{api.Less, "1/10", api.BranchLEQ, 0x3dcccccc}, {api.LessEq, "1/10", api.BranchLEQ, 0x3dcccccc}, {api.GreatEq, "1/10", api.BranchGTE, 0x3dcccccd}, {api.Great, "1/10", api.BranchGTE, 0x3dcccccd}, {api.Equal, "1/10", api.BranchLT, least}, {api.NotEqual, "1/10", api.BranchGTE, least}, {api.LessEq, "-1/10", api.BranchLEQ, 0xbdcccccd},
		{api.Less, beyond, api.BranchLEQ, greatest}, {api.GreatEq, beyond, api.BranchGT, greatest}, {api.Great, beyond, api.BranchGT, greatest}, {api.LessEq, "-" + beyond, api.BranchLT, least}, {api.Less, "-" + beyond, api.BranchLT, least}, {api.Great, "-" + beyond, api.BranchGTE, least},
		{api.True, "1", 0, 0}, {api.In, "1", 0, 0}, {0, "1", 0, 0}, {-3, "1/10", 0, 0}, {api.IsMissing, "1", 0, 0},
	} {
		r, _ := rat.Parse(c.r)
		if mode, bits := Snap(c.op, r); mode != c.mode || bits != c.bits {
			t.Errorf("number %d: %d, %x", i, mode, bits)
		}
	}
	thresholds := []string{"0", "1/10", "-1/10", "3/2", beyond, "-" + beyond, "1/" + beyond + "0000000", "-1/3", "16777217"}
	rows := []uint64{0, 1 << 31, 1, 1<<31 | 1, bits(0.1), 0x3dcccccc, bits(-0.1), bits(1.5), least, greatest, bits(16777216), bits(16777218), bits(-1.0 / 3)}
	for _, s := range thresholds {
		r, _ := rat.Parse(s)
		for op := api.Less; op <= api.Great; op++ {
			mode, snapped := Snap(op, r)
			for _, x := range rows {
				v, _ := ieee.Single().Decode(x)
				order := rat.Cmp(v, r)
				want := []bool{order < 0, order <= 0, order == 0, order != 0, order >= 0, order > 0}[op-api.Less]
				if onnxrun.Takes(mode, snapped, !want, x) != want {
					t.Errorf("op %d, %s and %x: not %v", op, s, x, want)
				}
			}
		}
	}
}

func TestP2603(t *testing.T) {
	none := api.Value{}
	for i, c := range []struct {
		row  []api.Value
		want string
	}{
		{[]api.Value{numeral("3/2"), none, none}, "[1069547520 2143289344] true"}, {[]api.Value{numeral("0"), numeral("-1"), numeral("1/10")}, "[0 3212836864] true"}, {[]api.Value{none, none, value.Cat("x")}, "[2143289344 2143289344] true"},
		{[]api.Value{numeral("1/10"), none, none}, "[] false"}, {[]api.Value{none, value.Cat("1"), none}, "[] false"}, {[]api.Value{numeral("2/4"), none, none}, "[] false"}, {[]api.Value{{Kind: 7}, none, none}, "[] false"}, {[]api.Value{none, {Num: "1"}, none}, "[] false"},
		{[]api.Value{none, none}, "[] false"}, {nil, "[] false"}, {[]api.Value{none, none, none, none}, "[] false"},
	} {
		got, ok := Row(sample(), c.row)
		if s := fmt.Sprint(got, ok); s != c.want {
			t.Errorf("number %d: %s", i, s)
		}
	}
}

// some tells a lowerable tree.
func some(r *rand.Rand) api.Segment {
	num := func() string {
		return []string{"0", "1/10", "-2", "3/2", "7", "340282346638528859811704183484516925441", "1/3"}[r.Intn(7)]
	}
	s := segment(node(yes, "1/4", -1))
	nodes := s.Tree.Nodes
	for range r.Intn(6) {
		up := r.Intn(len(nodes))
		if len(nodes[up].Kids) > 0 {
			continue
		}
		op, field, at := api.Less+r.Intn(6), r.Intn(3), num()
		n := len(nodes)
		nodes[up].Kids = []int{n + 1, n}
		nodes[up].Default = n + r.Intn(2)
		nodes = append(nodes, node(ask(ops.Opposite(op), field, at), fmt.Sprint(r.Intn(100)), -1), node(ask(op, field, at), fmt.Sprint(-r.Intn(100)), -1))
	}
	s.Tree.Nodes = nodes
	return s
}

func TestP2604(t *testing.T) {
	r := rand.New(rand.NewSource(1))
	single := ieee.Single()
	values := []uint64{0, 1, bits(0.1), 0x3dcccccc, bits(-2), bits(1.5), bits(7), 0x7f7fffff, 0xff7fffff, bits(1.0 / 3)}
	for range 1500 {
		m := api.Model{Fields: []api.Field{field("x"), field("y"), field("z")}, Method: []int{api.SumOf, api.AverageOf, api.MaxOf, api.MinOf}[r.Intn(4)]}
		m.Target.Constant = []string{"", "0", "-1/2"}[r.Intn(3)]
		for range 1 + r.Intn(4) {
			m.Segments = append(m.Segments, some(r))
		}
		e, code, word := Ensemble(m)
		if code != api.OK {
			t.Fatalf("%+v: %d, %s", m, code, word)
		}
		for range 20 {
			row := make([]api.Value, 3)
			for i := range row {
				if r.Intn(4) > 0 {
					v, _ := single.Decode(values[r.Intn(len(values))])
					row[i] = value.Of(v)
				}
			}
			want, _ := model.Score(m, row)
			patterns, ok := Row(m, row)
			if got, code := onnxrun.Score(e, patterns); !ok || code != api.OK || !slices.Equal(got, want.Nums) {
				t.Fatalf("%v of %+v: %q, %d, not %q", row, m, got, code, want.Nums)
			}
		}
	}
}
