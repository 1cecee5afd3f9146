package onnxio

import (
	"math"
	"math/rand"
	"slices"
	"strings"
	"testing"

	"hornbeam/api"
	"hornbeam/onnx"
	"hornbeam/pbuf"
	"hornbeam/pmsg"
)

const one = 0x3f800000

// sample asks feature 1, and has two targets.
func sample() api.Ensemble {
	return api.Ensemble{
		Features: 2, Targets: 2, Aggregate: "AVERAGE", Post: "LOGISTIC", Base: []uint64{one, 0},
		Nodes: []api.ENode{
			{Tree: 5, Node: 7, Mode: api.BranchLEQ, Feature: 1, Value: one, True: 3, False: 0, Tracks: true}, {Tree: 5, Node: 3, Mode: api.Leaf, Value: 0x7fc00000, Feature: 99, True: -7, False: math.MaxInt}, {Tree: 5, Node: 0, Mode: api.Leaf}, {Tree: 2, Node: 0, Mode: api.Leaf},
		},
		Leaves: []api.ELeaf{{Tree: 5, Node: 3, Weight: one}, {Tree: 2, Target: 1, Weight: 2}},
	}
}

func leaf() api.Ensemble {
	return api.Ensemble{Targets: 1, Aggregate: "SUM", Post: "NONE", Nodes: []api.ENode{{Mode: api.Leaf}}}
}

func write(t *testing.T, e api.Ensemble) string {
	t.Helper()
	b, code := Write(e)
	if code != api.OK {
		t.Fatalf("Write: %d", code)
	}
	return b
}

// parts is a model's bytes, as they are put together.
type parts struct {
	op, domain string
	attrs      []string
}

func partsOf(e api.Ensemble) parts {
	p := parts{op: opType, domain: domain}
	for a := range attributes(e) {
		b, _ := a.Bytes()
		p.attrs = append(p.attrs, b)
	}
	return p
}

func bytesOf(m *pmsg.Msg) string {
	b, _ := m.Bytes()
	return b
}

func (p parts) node() string {
	return bytesOf(pmsg.New().PutText(nodeOp, p.op).PutText(nodeAttr, p.attrs...).PutText(nodeDomain, p.domain))
}

func graph(nodes ...string) string {
	return bytesOf(pmsg.New().PutText(modelGraph, bytesOf(pmsg.New().PutText(graphNode, nodes...))))
}

func (p parts) bytes() string { return graph(p.node()) }

// with tells the parts with an attribute of that name put in the place of the one there (or behind all).
func (p parts) with(m *pmsg.Msg) parts {
	name, _, _ := m.Text(attrName)
	p.attrs = slices.Clone(p.attrs)
	for i, a := range p.attrs {
		if is, _ := pmsg.Parse(a); text(message{Msg: is}, attrName) == name {
			p.attrs[i] = bytesOf(m)
			return p
		}
	}
	p.attrs = append(p.attrs, bytesOf(m))
	return p
}

func (p parts) without(name string) parts {
	p.attrs = slices.DeleteFunc(slices.Clone(p.attrs), func(a string) bool {
		is, _ := pmsg.Parse(a)
		return text(message{Msg: is}, attrName) == name
	})
	return p
}

func TestP2301(t *testing.T) {
	e, wrong := Read(partsOf(sample()).bytes())
	if wrong.Code != 0 || !onnx.Same(e, sample()) {
		t.Fatal(wrong, e)
	}
	p := partsOf(leaf())
	for i, c := range []struct {
		b      string
		change func(e *api.Ensemble)
	}{
		{p.bytes(), func(e *api.Ensemble) {}},
		{p.with(named(nodeTracks).PutInts(attrInts, 1)).bytes(), func(e *api.Ensemble) { e.Nodes[0].Tracks = true }},
		{p.with(named(targetCount).PutUint(attrInt, 3)).bytes(), func(e *api.Ensemble) { e.Targets = 3 }},
		{p.with(named(aggregate).PutText(attrText, "MIN")).bytes(), func(e *api.Ensemble) { e.Aggregate = "MIN" }},
		{p.with(named(post).PutText(attrText, "x").PutText(attrText, "PROBIT")).bytes(), func(e *api.Ensemble) { e.Post = "PROBIT" }},
		{p.with(named(baseValues).PutFloats(attrFloats, one)).bytes(), func(e *api.Ensemble) { e.Base = []uint64{one} }},
		{p.with(named(nodeNodes).PutUint(attrInts, 9).PutUint(20, 7).PutText(attrStrings, "gone past")).bytes(), func(e *api.Ensemble) { e.Nodes[0].Node = 9 }},
		{p.with(named(nodeFeatures).PutInts(attrInts, 77)).bytes(), func(e *api.Ensemble) { e.Nodes[0].Feature = 77 }},
		{bytesOf(pmsg.New().PutUint(1, 8).PutText(modelGraph, "\xff").PutText(modelGraph, bytesOf(pmsg.New().PutText(11, "\xff").PutText(2, "name").PutText(graphNode, p.node()).PutUint(graphNode, 3))).PutText(8, "\xff")), func(e *api.Ensemble) {}},
	} {
		want := leaf()
		c.change(&want)
		if e, wrong := Read(c.b); wrong.Code != 0 || !onnx.Same(e, want) {
			t.Errorf("number %d: %v, %v", i, e, wrong)
		}
	}
}

// refused asks bytes that are to be told as wrong.
func refused(t *testing.T, b string, want api.Diag) {
	t.Helper()
	e, wrong := Read(b)
	if wrong.Code != want.Code || wrong.At != want.At || want.What != "" && wrong.What != want.What || !onnx.Same(e, api.Ensemble{}) {
		t.Errorf("%v, not %v, of %x", wrong, want, b)
	}
}

func TestP2301Wire(t *testing.T) {
	refused(t, "\x08\x01\xff", api.Diag{Code: api.ErrWire, At: 2})
	refused(t, strings.Repeat("\x08\x01", 30001), api.Diag{Code: api.ErrLimit})
	refused(t, "", api.Diag{Code: api.ErrDoc})
	refused(t, "\x08\x01", api.Diag{Code: api.ErrDoc})
	refused(t, "\x38\x01", api.Diag{Code: api.ErrDoc}) // field 7, and no Bytes
	refused(t, graph(), api.Diag{Code: api.ErrDoc})
	p := partsOf(leaf())
	refused(t, graph(p.node(), p.node()), api.Diag{Code: api.ErrDoc})
	refused(t, "\x08\x01\x3a\x03\x08\x01\x00", api.Diag{Code: api.ErrWire, At: 6})
	refused(t, "\x3a\x84\x00\x0a\x02\x08\x80", api.Diag{Code: api.ErrWire, At: 5})
	refused(t, "\x3a\x08\x08\x01\x0a\x04\x2a\x02\x08\x80", api.Diag{Code: api.ErrWire, At: 8})
	second := graph("\x08\x01", "\x2a\x01\xff")
	refused(t, second, api.Diag{Code: api.ErrWire, At: len(second) - 1})
	spoilt := parts{op: "x", attrs: []string{bytesOf(named("x")), "\x08\x01\x0b"}}.bytes()
	at := strings.Index(spoilt, "\x08\x01\x0b")
	refused(t, spoilt, api.Diag{Code: api.ErrWire, At: at + 2})
}

func TestP2301Attributes(t *testing.T) {
	p := partsOf(sample())
	node := func(p parts) int { return strings.Index(p.bytes(), p.node()) }
	twice := p
	twice.attrs = append(slices.Clone(p.attrs), p.attrs[3])
	also := twice
	also.op = "other"
	docs := []parts{twice, also, p.with(named(nodeTracks).PutInts(attrInts, 0, 1)), p.with(named(nodeTracks)), p.with(named(nodeTracks).PutInts(attrInts, 2, 0, 0, 0)), p.with(named(nodeTracks).PutInts(attrInts, 0, -1, 0, 0)), p.with(named(nodeModes).PutText(attrStrings, "LEAF", "LEAF", "LEAF", "leaf"))}
	for _, name := range []string{nodeTrees, nodeNodes, nodeFeatures, nodeTrue, nodeFalse, targetTrees, targetNodes, targetIds, nodeValues, targetWeights, nodeModes} {
		docs = append(docs, p.without(name), p.with(named(name)))
	}
	for i, d := range docs {
		refused(t, d.bytes(), api.Diag{Code: api.ErrDoc, At: node(d)})
		if node(d) < 4 {
			t.Error(i, node(d))
		}
	}
	for _, name := range []string{nodeTracks, baseValues, targetCount, aggregate, post} {
		_, wrong := Read(p.without(name).bytes())
		if wrong.Code != 0 && wrong.What == "" {
			t.Error(name, "may lack:", wrong)
		}
	}
	op, dom, none := p, p, parts{}
	op.op, dom.domain = "TreeEnsembleClassifier", "ai.onnx"
	for _, k := range []parts{op, dom, none, p.with(named("nodes_hitrates")), p.with(named("")), p.with(pmsg.New()), p.with(named("nodes_hitrates")).without(nodeTrees)} {
		refused(t, k.bytes(), api.Diag{Code: api.ErrKind, At: node(k)})
	}
	for i, m := range []*pmsg.Msg{named(nodeTrees).PutText(attrInts, "\x80"), named(targetIds).PutUint(attrInts, 1).PutText(attrInts, "\x01\xff"), named(nodeValues).PutText(attrFloats, "abc"), named(baseValues).PutText(attrFloats, "abcde")} {
		d := p.with(m)
		refused(t, d.bytes(), api.Diag{Code: api.ErrWire, At: strings.Index(d.bytes(), bytesOf(m))})
		if i == 0 {
			refused(t, d.without(nodeNodes).bytes(), api.Diag{Code: api.ErrDoc, At: node(d.without(nodeNodes))})
		}
	}
}

func TestP2301Check(t *testing.T) {
	for word, change := range map[string]func(p parts) parts{
		"size": func(p parts) parts { return p.with(named(targetCount).PutUint(attrInt, 21)) }, "aggregate": func(p parts) parts { return p.with(named(aggregate).PutText(attrText, "MEAN")) }, "post": func(p parts) parts { return p.with(named(post)) }, "base": func(p parts) parts { return p.with(named(baseValues).PutFloats(attrFloats, 1, 2, 3)) }, "number": func(p parts) parts { return p.with(named(nodeNodes).PutInts(attrInts, 7, 3, 3, 0)) }, "feature": func(p parts) parts { return p.with(named(nodeFeatures).PutInts(attrInts, -1, 0, 0, 0)) }, "value": func(p parts) parts { return p.with(named(nodeValues).PutFloats(attrFloats, 0x7f800000, 0, 0, 0)) }, "kid": func(p parts) parts { return p.with(named(nodeTrue).PutInts(attrInts, 9, 0, 0, 0)) }, "forest": func(p parts) parts {
			return p.with(named(nodeTrees).PutInts(attrInts, 5, 5, 5, 5)).with(named(nodeNodes).PutInts(attrInts, 7, 3, 0, 1))
		}, "leaf": func(p parts) parts { return p.with(named(targetIds).PutInts(attrInts, 0, 2)) }, "weight": func(p parts) parts { return p.with(named(targetWeights).PutFloats(attrFloats, 0x7fc00000, 0)) },
	} {
		p := change(partsOf(sample()))
		refused(t, p.bytes(), api.Diag{Code: api.ErrDoc, At: strings.Index(p.bytes(), p.node()), What: word})
	}
	p := partsOf(sample())
	for _, feature := range []int{40, math.MaxInt, math.MaxInt - 1, -5} {
		refused(t, p.with(named(nodeFeatures).PutInts(attrInts, feature, 0, 0, 0)).bytes(), api.Diag{Code: api.ErrDoc, At: strings.Index(p.bytes(), p.node()), What: "size"})
	}
	refused(t, p.with(named(targetCount)).bytes(), api.Diag{Code: api.ErrDoc, At: strings.Index(p.bytes(), p.node()), What: "size"})
}

func TestP2302(t *testing.T) {
	b := write(t, sample())
	want := graph(bytesOf(pmsg.New().PutText(nodeInput, "x").PutText(nodeOutput, "y").PutText(nodeOp, "TreeEnsembleRegressor").PutText(nodeAttr,
		bytesOf(pmsg.New().PutText(1, "nodes_treeids").PutInts(8, 5, 5, 5, 2)), bytesOf(pmsg.New().PutText(1, "nodes_nodeids").PutInts(8, 7, 3, 0, 0)), bytesOf(pmsg.New().PutText(1, "nodes_featureids").PutInts(8, 1, 99, 0, 0)), bytesOf(pmsg.New().PutText(1, "nodes_truenodeids").PutInts(8, 3, -7, 0, 0)), bytesOf(pmsg.New().PutText(1, "nodes_falsenodeids").PutInts(8, 0, math.MaxInt, 0, 0)), bytesOf(pmsg.New().PutText(1, "nodes_missing_value_tracks_true").PutInts(8, 1, 0, 0, 0)),
		bytesOf(pmsg.New().PutText(1, "target_treeids").PutInts(8, 5, 2)), bytesOf(pmsg.New().PutText(1, "target_nodeids").PutInts(8, 3, 0)), bytesOf(pmsg.New().PutText(1, "target_ids").PutInts(8, 0, 1)),
		bytesOf(pmsg.New().PutText(1, "nodes_values").PutFloats(7, one, 0x7fc00000, 0, 0)), bytesOf(pmsg.New().PutText(1, "target_weights").PutFloats(7, one, 2)), bytesOf(pmsg.New().PutText(1, "base_values").PutFloats(7, one, 0)), bytesOf(pmsg.New().PutText(1, "nodes_modes").PutText(9, "BRANCH_LEQ", "LEAF", "LEAF", "LEAF")),
		bytesOf(pmsg.New().PutText(1, "n_targets").PutUint(3, 2)), bytesOf(pmsg.New().PutText(1, "aggregate_function").PutText(4, "AVERAGE")), bytesOf(pmsg.New().PutText(1, "post_transform").PutText(4, "LOGISTIC")),
	).PutText(nodeDomain, "ai.onnx.ml")))
	if b != want || b != write(t, sample()) {
		t.Errorf("%q, not %q", b, want)
	}
	for _, name := range []string{nodeTracks, baseValues, targetCount, aggregate, post} {
		if strings.Contains(write(t, leaf()), name) {
			t.Error(name, "is written though it may lack")
		}
	}
	for i, change := range []func(e *api.Ensemble){func(e *api.Ensemble) { *e = api.Ensemble{} }, func(e *api.Ensemble) { e.Features = 3 }, func(e *api.Ensemble) { e.Features = 1 }, func(e *api.Ensemble) { e.Leaves[0].Weight = 0x7f800000 }} {
		e := sample()
		change(&e)
		if b, code := Write(e); b != "" || code != api.ErrArg {
			t.Error("change", i, len(b), code)
		}
	}
	long := leaf()
	for i := 1; i < 2000; i++ {
		long.Nodes = append(long.Nodes, api.ENode{Tree: 1, Node: i, Mode: api.Leaf, True: -1, False: -1, Feature: -1})
	}
	long.Nodes = long.Nodes[1:]
	for i := range long.Nodes {
		long.Nodes[i].Tree = i % 100
	}
	if b, code := Write(long); b != "" || code != api.ErrArg {
		t.Error("no forest:", len(b), code)
	}
	if b, code := Write(wide(999, -1)); b != "" || code != api.ErrLimit {
		t.Error("too long:", len(b), code)
	}
	if b, code := Write(wide(999, 0)); len(b) < 30000 || code != api.OK {
		t.Error("long:", len(b), code)
	}
}

// wide has trees of three nodes each, whose leaves have a number that is not asked.
func wide(nodes, number int) api.Ensemble {
	e := api.Ensemble{Features: 1, Targets: 1, Aggregate: "SUM", Post: "NONE"}
	for tree := range 100 {
		e.Nodes = append(e.Nodes, api.ENode{Tree: tree, Node: 0, Mode: api.BranchLEQ, True: 1, False: 2})
		for n := 1; n <= 2*(nodes/100); n++ {
			node := api.ENode{Tree: tree, Node: n, Mode: api.Leaf, Feature: number, True: number, False: number}
			if next := 2*((n-1)/2) + 3; n%2 == 0 && next+1 <= 2*(nodes/100) {
				node = api.ENode{Tree: tree, Node: n, Mode: api.BranchLEQ, True: next, False: next + 1}
			}
			e.Nodes = append(e.Nodes, node)
		}
	}
	return e
}

// grown tells a tree's nodes: leaves are split, again and again.
func grown(r *rand.Rand, tree int) []api.ENode {
	out := []api.ENode{{Tree: tree, Mode: api.Leaf}}
	for range r.Intn(5) {
		n := len(out)
		up := &out[r.Intn(n)]
		for up.Mode != api.Leaf {
			up = &out[r.Intn(n)]
		}
		up.Mode, up.Feature, up.Value, up.True, up.False, up.Tracks = 1+r.Intn(6), r.Intn(5), uint64(r.Intn(0x7f800000)), n+1, n, r.Intn(2) == 0
		for k := n; k < n+2; k++ {
			out = append(out, api.ENode{Tree: tree, Node: k, Mode: api.Leaf, Value: uint64(r.Uint32()), Feature: r.Int() - 1<<62, True: -k, Tracks: r.Intn(3) == 0})
		}
	}
	return out
}

func TestP2303(t *testing.T) {
	r := rand.New(rand.NewSource(1))
	for range 1000 {
		e := api.Ensemble{Targets: 1 + r.Intn(3), Aggregate: []string{"SUM", "AVERAGE", "MIN", "MAX"}[r.Intn(4)], Post: []string{"NONE", "SOFTMAX", "LOGISTIC", "SOFTMAX_ZERO", "PROBIT"}[r.Intn(5)]}
		if r.Intn(2) == 0 {
			e.Base = make([]uint64, e.Targets)
			e.Base[0] = uint64(r.Intn(0x7f800000))
		}
		for tree := range 1 + r.Intn(3) {
			for _, n := range grown(r, 3*tree) {
				e.Nodes = append(e.Nodes, n)
				if n.Mode == api.Leaf && r.Intn(4) > 0 {
					e.Leaves = append(e.Leaves, api.ELeaf{Tree: n.Tree, Node: n.Node, Target: r.Intn(e.Targets), Weight: uint64(r.Intn(0x7f800000))})
				}
			}
		}
		r.Shuffle(len(e.Nodes), func(i, j int) { e.Nodes[i], e.Nodes[j] = e.Nodes[j], e.Nodes[i] })
		e.Features = features(e.Nodes)
		if word, ok := onnx.Check(e); !ok {
			t.Fatal(word, e)
		}
		b := write(t, e)
		back, wrong := Read(b)
		if wrong.Code != 0 || !onnx.Same(back, e) || write(t, back) != b {
			t.Fatal(wrong, back, e)
		}
	}
}

func TestAnyBytes(t *testing.T) {
	r := rand.New(rand.NewSource(2))
	good := write(t, sample())
	for range 20000 {
		b := []byte(good)
		for range 1 + r.Intn(3) {
			b[r.Intn(len(b))] = byte(r.Intn(256))
		}
		b = b[:len(b)-r.Intn(2)*r.Intn(len(b))]
		e, wrong := Read(string(b))
		if _, ok := onnx.Check(e); ok != (wrong.Code == 0) || wrong.At < 0 || wrong.At > len(b) {
			t.Fatalf("%x: %v", b, wrong)
		}
	}
	if fields, _ := pbuf.Fields(good); len(fields) != 1 {
		t.Error(fields)
	}
}
