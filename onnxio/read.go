package onnxio

import (
	"hornbeam/api"
	"hornbeam/onnx"
	"hornbeam/pbuf"
	"hornbeam/pmsg"
)

// message is one within the bytes that are read, and the place of its first byte there.
type message struct {
	*pmsg.Msg
	b  string
	at int
}

// parse reads a message; an error's place is one in the whole.
func parse(b string, at int) (message, api.Diag) {
	m, wrong := pmsg.Parse(b)
	if wrong.Code != api.OK {
		return message{}, api.Diag{Code: wrong.Code, At: at + wrong.At}
	}
	return message{m, b, at}, api.Diag{}
}

// within reads all messages that stand in one as fields of a number.
func (m message) within(num int) ([]message, api.Diag) {
	fields, _ := pbuf.Fields(m.b) // which were read before
	var out []message
reading:
	for i, f := range fields {
		if f.Num != num || f.Kind != pbuf.Bytes {
			continue reading
		}
		end := len(m.b)
		if i+1 < len(fields) {
			end = fields[i+1].At
		}
		part, wrong := parse(f.Data, m.at+end-len(f.Data))
		if wrong.Code != api.OK {
			return nil, wrong
		}
		out = append(out, part)
	}
	return out, api.Diag{}
}

// operator is a node of the graph, and its attributes.
type operator struct {
	message
	attrs []message
}

// operators reads the bytes as far as they are messages.
func operators(b string) ([]operator, api.Diag) {
	model, wrong := parse(b, 0)
	if wrong.Code != api.OK {
		return nil, wrong
	}
	text, at, ok := model.Text(modelGraph)
	if !ok {
		return nil, api.Diag{Code: api.ErrDoc}
	}
	graph, wrong := parse(text, at)
	if wrong.Code != api.OK {
		return nil, wrong
	}
	nodes, wrong := graph.within(graphNode)
	if wrong.Code != api.OK {
		return nil, wrong
	}
	var out []operator
	for _, n := range nodes {
		attrs, wrong := n.within(nodeAttr)
		if wrong.Code != api.OK {
			return nil, wrong
		}
		out = append(out, operator{n, attrs})
	}
	return out, api.Diag{}
}

// Read tells the ensemble of bytes.
func Read(b string) (api.Ensemble, api.Diag) {
	all, wrong := operators(b)
	if wrong.Code != api.OK {
		return api.Ensemble{}, wrong
	}
	if len(all) != 1 {
		return api.Ensemble{}, api.Diag{Code: api.ErrDoc}
	}
	return all[0].ensemble()
}

func (o operator) ensemble() (api.Ensemble, api.Diag) {
	attrs, code := o.named()
	if code != api.OK {
		return api.Ensemble{}, api.Diag{Code: code, At: o.at}
	}
	if code, at := o.spoilt(); code != api.OK {
		return api.Ensemble{}, api.Diag{Code: code, At: at}
	}
	e, ok := attrs.build()
	if !ok {
		return api.Ensemble{}, api.Diag{Code: api.ErrDoc, At: o.at}
	}
	if word, ok := onnx.Check(e); !ok {
		return api.Ensemble{}, api.Diag{Code: api.ErrDoc, At: o.at, What: word}
	}
	return e, api.Diag{}
}

func text(m message, num int) string {
	s, _, _ := m.Text(num)
	return s
}

// table has attributes by their names.
type table map[string]message

// named tells a node's attributes by their names: none twice, none of another name, none that is needed lacks.
func (o operator) named() (table, api.Code) {
	attrs := table{}
	for _, a := range o.attrs {
		name := text(a, attrName)
		if _, twice := attrs[name]; twice {
			return nil, api.ErrDoc
		}
		attrs[name] = a
	}
	if text(o.message, nodeOp) != opType || text(o.message, nodeDomain) != domain {
		return nil, api.ErrKind
	}
	for _, a := range o.attrs {
		if field, _ := kind(text(a, attrName)); field == 0 {
			return nil, api.ErrKind
		}
	}
	for _, name := range []string{nodeTrees, nodeNodes, nodeFeatures, nodeTrue, nodeFalse, targetTrees, targetNodes, targetIds, nodeValues, targetWeights, nodeModes} {
		if _, ok := attrs[name]; !ok {
			return nil, api.ErrDoc
		}
	}
	return attrs, api.OK
}

// spoilt tells the error of the first attribute whose list is none, and its place.
func (o operator) spoilt() (api.Code, int) {
	for _, a := range o.attrs {
		var wrong api.Diag
		switch field, _ := kind(text(a, attrName)); field {
		case attrInts:
			_, wrong = a.Ints(attrInts)
		case attrFloats:
			_, wrong = a.Floats(attrFloats)
		}
		if wrong.Code != api.OK {
			return wrong.Code, a.at
		}
	}
	return api.OK, 0
}

// The lists of attributes, none of which is spoilt; nothing of one that lacks.

func (t table) ints(name string) []int {
	out, _ := t[name].Ints(attrInts)
	return out
}

func (t table) floats(name string) []uint64 {
	out, _ := t[name].Floats(attrFloats)
	return out
}

func (t table) text(name, lacking string) string {
	a, ok := t[name]
	if !ok {
		return lacking
	}
	return text(a, attrText)
}

func (t table) columns() columns {
	c := columns{
		trees: t.ints(nodeTrees), nodes: t.ints(nodeNodes), features: t.ints(nodeFeatures), isTrue: t.ints(nodeTrue), isFalse: t.ints(nodeFalse), tracks: t.ints(nodeTracks),
		values: t.floats(nodeValues), modes: t[nodeModes].Texts(attrStrings),
		leafTrees: t.ints(targetTrees), leafNodes: t.ints(targetNodes), targets: t.ints(targetIds), weights: t.floats(targetWeights),
	}
	if _, ok := t[nodeTracks]; !ok {
		c.tracks = make([]int, len(c.trees))
	}
	return c
}

// build makes an ensemble; false, if its lists do not go together.
func (t table) build() (api.Ensemble, bool) {
	c := t.columns()
	if !c.even() {
		return api.Ensemble{}, false
	}
	e := api.Ensemble{Targets: usualTargets, Aggregate: t.text(aggregate, usualAggregate), Post: t.text(post, usualPost), Base: t.floats(baseValues)}
	if a, ok := t[targetCount]; ok {
		e.Targets, _ = a.Int(attrInt)
	}
	for i, tree := range c.trees {
		mode, ok := onnx.Mode(c.modes[i])
		if !ok || c.tracks[i] < 0 || c.tracks[i] > 1 {
			return api.Ensemble{}, false
		}
		e.Nodes = append(e.Nodes, api.ENode{Tree: tree, Node: c.nodes[i], Feature: c.features[i], Mode: mode, Value: c.values[i], True: c.isTrue[i], False: c.isFalse[i], Tracks: c.tracks[i] == 1})
	}
	for i, tree := range c.leafTrees {
		e.Leaves = append(e.Leaves, api.ELeaf{Tree: tree, Node: c.leafNodes[i], Target: c.targets[i], Weight: c.weights[i]})
	}
	e.Features = features(e.Nodes)
	return e, true
}

// even tells whether the lists of nodes, and those of leaves, are equally long.
func (c columns) even() bool {
	for _, n := range []int{len(c.nodes), len(c.features), len(c.isTrue), len(c.isFalse), len(c.tracks), len(c.values), len(c.modes)} {
		if n != len(c.trees) {
			return false
		}
	}
	return len(c.leafNodes) == len(c.leafTrees) && len(c.targets) == len(c.leafTrees) && len(c.weights) == len(c.leafTrees)
}
