package pmmlin

import (
	"fmt"
	"math/rand"
	"reflect"
	"slices"
	"strings"
	"testing"

	"hornbeam/api"
	"hornbeam/model"
)

const (
	dictionary = `<DataDictionary><DataField name="x" optype="continuous"/><DataField name="c" optype="categorical"><Value value="red"/><Value value="blue"/></DataField></DataDictionary>`
	schema     = `<MiningSchema><MiningField name="x"/><MiningField name="c"/></MiningSchema>`
)

// pmml wraps what stands in PMML.
func pmml(s string) string { return `<PMML version="4.4">` + s + `</PMML>` }

// treeOf wraps what stands in the root Node.
func treeOf(s string) string {
	return pmml(dictionary + `<TreeModel functionName="regression">` + schema + `<Node score="1">` + s + `</Node></TreeModel>`)
}

// mining wraps segments.
func mining(method, s string) string {
	return pmml(dictionary + `<MiningModel functionName="regression">` + schema + `<Segmentation multipleModelMethod="` + method + `">` + s + `</Segmentation></MiningModel>`)
}

const leaf = `<TreeModel functionName="regression"><MiningSchema/><Node score="1"><True/></Node></TreeModel>`

func read(t *testing.T, s string) api.Model {
	t.Helper()
	m, wrong := Read(s)
	if wrong.Code != 0 || !model.Valid(m) {
		t.Fatalf("%s: %v", s, wrong)
	}
	return m
}

// refused asks a text in which a mark stands ahead of the element that is to be told.
func refused(t *testing.T, code api.Code, marked string) {
	t.Helper()
	at := strings.Index(marked, "¦")
	s := strings.Replace(marked, "¦", "", 1)
	m, wrong := Read(s)
	if at < 0 || wrong.Code != code || wrong.At != at || !reflect.DeepEqual(m, api.Model{}) {
		t.Errorf("%s: %d at %d, not %d at %d", marked, wrong.Code, wrong.At, code, at)
	}
}

func numeral(s string) api.Value { return api.Value{Kind: api.Number, Num: s} }

func cat(s string) api.Value { return api.Value{Kind: api.Category, Cat: s} }

var (
	yes = api.Pred{Op: api.True}
	no  = api.Pred{Op: api.False}
)

func TestP2001Tree(t *testing.T) {
	got := read(t, `<?xml version="1.0"?>
<PMML version="4.4" xmlns="http://www.dmg.org/PMML-4_4"><Header copyright="x"><Extension/><Anything><TreeModel functionName="classification"/></Anything></Header>
<DataDictionary numberOfFields="5">
  <DataField name="x" optype="continuous" dataType="double"><Value value="1"/><Value value="zz" property="valid"><Interval/></Value></DataField>
  <DataField name="c" optype="categorical"><Value value="red"/> <Value value=" b " property="valid"/></DataField>
  <DataField name="y" optype="continuous"/><DataField name="z" optype="continuous"/><DataField name="z" optype="categorical"/>
  <DataField name="free" optype="categorical"/>
</DataDictionary>
<TreeModel modelName="m" functionName="regression" missingValueStrategy="defaultChild" noTrueChildStrategy="returnLastPrediction">
 text <MiningSchema>
  <MiningField name="y" usageType="target" invalidValueTreatment="zz"><Extension/></MiningField><MiningField usageType="supplementary"/><MiningField name="none" usageType="predicted"/>
  <MiningField name="z"/><MiningField name="c" usageType="active" missingValueReplacement="red" invalidValueTreatment="asMissing"/><MiningField name="x" missingValueReplacement="1.50" invalidValueTreatment="asIs" importance="7"/><MiningField name="free" missingValueReplacement="" invalidValueTreatment="returnInvalid"/>
 </MiningSchema>
 <Targets><Target field="y" min="-1e1" max="1e1" rescaleFactor="2.0" rescaleConstant="0.5" castInteger="ceiling"/></Targets>
 <Node id="r" score="-0.50" recordCount="10" defaultChild="b"><True/>
  <Node id="a"><False/></Node><Node score="1" id="b" recordCount="3"><SimplePredicate field="x" operator="lessThan" value="2.50"/><Node id="b" score="1e0"><True/></Node></Node><Node id="b"><True/></Node><Node><True/></Node>
 </Node>
</TreeModel></PMML>`)
	node := func(p api.Pred, score, count string, fallback int, kids ...int) api.Node {
		return api.Node{Pred: p, Score: score, Count: count, Kids: kids, Default: fallback}
	}
	want := api.Model{
		Fields: []api.Field{
			{Name: "z", Kind: api.Continuous, Invalid: api.Refuse}, {Name: "c", Kind: api.Categorical, Values: []string{"red", " b "}, Replace: cat("red"), Invalid: api.AsMissing}, {Name: "x", Kind: api.Continuous, Replace: numeral("3/2"), Invalid: api.AsIs}, {Name: "free", Kind: api.Categorical, Replace: cat(""), Invalid: api.Refuse},
		},
		Method: api.SumOf,
		Segments: []api.Segment{{Pred: yes, Tree: api.Tree{Missing: api.ToDefault, NoTrue: api.LastScore, Nodes: []api.Node{
			node(yes, "-1/2", "10", 2, 1, 2, 4, 5), node(no, "", "", -1), node(api.Pred{Op: api.Less, Field: 2, Values: []api.Value{numeral("5/2")}}, "1", "3", -1, 3), node(yes, "1", "", -1), node(yes, "", "", -1), node(yes, "", "", -1),
		}}}},
		Target: api.Target{Min: "-10", Max: "10", Factor: "2", Constant: "1/2", Cast: api.CastCeil},
	}
	if !model.Same(got, want) {
		t.Errorf("%+v, not %+v", got, want)
	}
}

func TestP2001Attributes(t *testing.T) {
	for name, want := range map[string]int{"": api.SkipIt, `missingValueStrategy="none"`: api.SkipIt, `missingValueStrategy="lastPrediction"`: api.LastScore, `missingValueStrategy="nullPrediction"`: api.NoScore, `missingValueStrategy="defaultChild"`: api.ToDefault, `missingValueStrategy="weightedConfidence"`: api.Weighted, `missingValueStrategy="aggregateNodes"`: api.Leaves} {
		m := read(t, strings.Replace(treeOf("<True/>"), `="regression"`, `="regression" `+name, 1))
		if tree := m.Segments[0].Tree; tree.Missing != want || tree.NoTrue != api.NoScore {
			t.Error(name, tree.Missing, tree.NoTrue)
		}
	}
	for name, want := range map[string]int{`noTrueChildStrategy="returnNullPrediction"`: api.NoScore, `noTrueChildStrategy="returnLastPrediction"`: api.LastScore} {
		m := read(t, strings.Replace(treeOf("<True/>"), `="regression"`, `="regression" `+name, 1))
		if tree := m.Segments[0].Tree; tree.NoTrue != want {
			t.Error(name, tree.NoTrue)
		}
	}
	for name, want := range map[string]api.Target{``: {}, `castInteger="round"`: {Cast: api.CastRound}, `castInteger="floor" max="1."`: {Cast: api.CastFloor, Max: "1"}, `rescaleFactor="1" rescaleConstant="-0"`: {Factor: "1", Constant: "0"}} {
		m := read(t, strings.Replace(treeOf("<True/>"), schema, schema+`<Targets><Target `+name+`/></Targets>`, 1))
		if m.Target != want {
			t.Error(name, m.Target)
		}
	}
}

func TestP2001Mining(t *testing.T) {
	for name, want := range map[string]int{"sum": api.SumOf, "average": api.AverageOf, "weightedAverage": api.WeightedOf, "median": api.MedianOf, "max": api.MaxOf, "selectFirst": api.SelectFirst, "selectAll": api.SelectAll, "modelChain": api.Chain} {
		if m := read(t, mining(name, `<Segment><True/>`+leaf+`</Segment>`)); m.Method != want {
			t.Error(name, m.Method)
		}
	}
	m := read(t, strings.Replace(mining("weightedAverage", `<Segment id="1" weight="0.50"><SimplePredicate field="c" operator="equal" value="red"/><TreeModel functionName="regression" missingValueStrategy="nullPrediction"><MiningSchema>x<Extension/><MiningField/></MiningSchema><Node score="2"><True/><Node><SimplePredicate field="x" operator="isMissing" value="gone past"/></Node></Node></TreeModel></Segment>
		<Segment weight="1"><False/>`+leaf+`</Segment>`), schema, schema+`<Targets><Target min="1"/></Targets>`, 1))
	a, b := m.Segments[0], m.Segments[1]
	if len(m.Segments) != 2 || a.Weight != "1/2" || a.Pred.Op != api.Equal || a.Pred.Field != 1 || a.Pred.Values[0] != cat("red") || a.Tree.Missing != api.NoScore || len(a.Tree.Nodes) != 2 || a.Tree.Nodes[1].Pred.Op != api.IsMissing || len(a.Tree.Nodes[1].Pred.Values) != 0 || b.Weight != "1" || b.Pred.Op != api.False || m.Target.Min != "1" {
		t.Errorf("%+v", m)
	}
}

func TestP2001Predicates(t *testing.T) {
	one := func(op, field int, v ...api.Value) api.Pred { return api.Pred{Op: op, Field: field, Values: v} }
	for s, want := range map[string]api.Pred{
		`<True/>`: yes, `<False></False>`: no,
		`<SimplePredicate field="x" operator="lessThan" value="1"/>`: one(api.Less, 0, numeral("1")), `<SimplePredicate field="x" operator="lessOrEqual" value="-.5"/>`: one(api.LessEq, 0, numeral("-1/2")), `<SimplePredicate field="x" operator="equal" value="1e2"/>`: one(api.Equal, 0, numeral("100")), `<SimplePredicate field="x" operator="notEqual" value="+0"/>`: one(api.NotEqual, 0, numeral("0")), `<SimplePredicate field="x" operator="greaterOrEqual" value="1"/>`: one(api.GreatEq, 0, numeral("1")), `<SimplePredicate field="x" operator="greaterThan" value="1"/>`: one(api.Great, 0, numeral("1")),
		`<SimplePredicate field="c" operator="equal" value=""/>`: one(api.Equal, 1, cat("")), `<SimplePredicate field="c" operator="notEqual" value="&lt; 1"/>`: one(api.NotEqual, 1, cat("< 1")),
		`<SimplePredicate field="c" operator="isMissing"/>`: one(api.IsMissing, 1), `<SimplePredicate field="x" operator="isNotMissing"/>`: one(api.IsThere, 0),
		`<SimpleSetPredicate field="x" booleanOperator="isIn"><Array n="9" type="int"> 3 1.50&#10;3 "4"</Array></SimpleSetPredicate>`:                            one(api.In, 0, numeral("3"), numeral("3/2"), numeral("3"), numeral("4")),
		`<SimpleSetPredicate field="c" booleanOperator="isNotIn">x<Array>a<![CDATA[b "<"]]> "\"" "" 5</Array></SimpleSetPredicate>`:                              one(api.NotIn, 1, cat("ab"), cat("<"), cat("\""), cat(""), cat("5")),
		`<CompoundPredicate booleanOperator="and"><True/><False/></CompoundPredicate>`:                                                                           {Op: api.And, Kids: []api.Pred{yes, no}},
		`<CompoundPredicate booleanOperator="or"><True/><False/><True/></CompoundPredicate>`:                                                                     {Op: api.Or, Kids: []api.Pred{yes, no, yes}},
		`<CompoundPredicate booleanOperator="xor"><True/><CompoundPredicate booleanOperator="surrogate"><False/><True/></CompoundPredicate></CompoundPredicate>`: {Op: api.Xor, Kids: []api.Pred{yes, {Op: api.Surrogate, Kids: []api.Pred{no, yes}}}},
	} {
		if m := read(t, treeOf(s)); !reflect.DeepEqual(m.Segments[0].Tree.Nodes[0].Pred, want) {
			t.Errorf("%s: %+v", s, m.Segments[0].Tree.Nodes[0].Pred)
		}
	}
}

func TestP2001Xml(t *testing.T) {
	for s, want := range map[string]api.Diag{"": {Code: api.ErrXml}, "<PMML>": {Code: api.ErrXml, At: 6}, "<PMML>&": {Code: api.ErrXml, At: 6}, strings.Repeat(" ", 60001): {Code: api.ErrLimit}, strings.Repeat("<a>", 101): {Code: api.ErrLimit, At: 300}, "\xff": {Code: api.ErrXml}} {
		m, wrong := Read(s)
		if wrong != want || !reflect.DeepEqual(m, api.Model{}) {
			t.Errorf("%.20q: %v", s, wrong)
		}
	}
}

func TestP2001Places(t *testing.T) {
	tree := `<TreeModel functionName="regression">` + schema + `<Node><True/></Node></TreeModel>`
	for _, s := range []string{
		`¦<Foo/>`, ` <!-- x --> ¦<pmml version="4.4"/>`, `¦<TreeModel functionName="regression"/>`, `¦<Node/>`,
		`¦<PMML>` + dictionary + tree + `</PMML>`, `¦<PMML version="4.3">` + dictionary + tree + `</PMML>`, ` ¦<PMML version="4.40"/>`,
		// what lacks
		`¦` + pmml(``), `¦` + pmml(tree), `¦` + pmml(dictionary), `¦` + pmml(`<Foo/>`+tree), `¦` + pmml(`<Extension/>`), `¦` + pmml(dictionary+`<RegressionModel/>`),
		pmml(dictionary + `¦<TreeModel functionName="regression"/>`), pmml(dictionary + `¦<TreeModel functionName="regression">` + schema + `</TreeModel>`), pmml(dictionary + `¦<TreeModel functionName="regression"><Node/></TreeModel>`), pmml(dictionary + `¦<TreeModel functionName="regression"><Output/>` + schema + `</TreeModel>`),
		pmml(dictionary + `¦<MiningModel functionName="regression">` + schema + `</MiningModel>`), pmml(dictionary + `¦<MiningModel functionName="regression"><Segmentation multipleModelMethod="votes"/></MiningModel>`),
		pmml(dictionary + `<TreeModel functionName="regression">` + schema + `¦<Targets/><Node><True/></Node></TreeModel>`), pmml(dictionary + `<TreeModel functionName="regression">` + schema + `¦<Node/></TreeModel>`),
		treeOf(`<True/>¦<Node><Extension/></Node>`), treeOf(`<True/>¦<Node><Node><True/></Node></Node>`), treeOf(`¦<SimpleSetPredicate field="x" booleanOperator="isIn"/>`), treeOf(`¦<SimpleSetPredicate field="x" booleanOperator="isIn"><Extension/></SimpleSetPredicate>`),
		mining("sum", `¦<Segment/>`), mining("sum", `¦<Segment><True/></Segment>`), mining("sum", `¦<Segment>`+leaf+`</Segment>`), mining("sum", `<Segment><True/>¦<TreeModel functionName="regression"><Node><True/></Node></TreeModel></Segment>`),
		// one too many, or out of order
		pmml(dictionary + `¦` + dictionary + tree), pmml(dictionary + tree + `¦` + tree), pmml(dictionary + `¦<Header/>` + tree), pmml(`<Header/>¦<Header/>` + dictionary + tree), pmml(`¦` + tree + dictionary), pmml(dictionary + tree + `¦<MiningModel functionName="regression"/>`), pmml(dictionary + tree + `¦<Header/>`), pmml(dictionary + `¦<Foo/>` + tree), pmml(dictionary + `¦<MiningBuildTask/>` + tree),
		pmml(dictionary + `<TreeModel functionName="regression">` + schema + `¦` + schema + `<Node><True/></Node></TreeModel>`), pmml(dictionary + `<TreeModel functionName="regression">` + schema + `<Node><True/></Node>¦<Node><True/></Node></TreeModel>`), pmml(dictionary + `<TreeModel functionName="regression">¦<Node><True/></Node>` + schema + `</TreeModel>`), pmml(dictionary + `<TreeModel functionName="regression">` + schema + `<Node><True/></Node>¦<Targets><Target/></Targets></TreeModel>`), pmml(dictionary + `<TreeModel functionName="regression">¦<Targets><Target/></Targets>` + schema + `<Node><True/></Node></TreeModel>`),
		pmml(dictionary + `<TreeModel functionName="regression">` + schema + `<Targets><Target/>¦<Target/></Targets><Node><True/></Node></TreeModel>`), pmml(dictionary + `<TreeModel functionName="regression">` + schema + `<Targets><Target>¦<TargetValue/></Target></Targets><Node><True/></Node></TreeModel>`),
		treeOf(`<True/>¦<True/>`), treeOf(`<True/><Node><True/></Node>¦<False/>`), treeOf(`¦<Node><True/></Node><True/>`), treeOf(`<True>¦<True/></True>`), treeOf(`<False>¦<Foo/></False>`), treeOf(`<True/>¦<Segment/>`), treeOf(`<True/>¦<Interval/>`), treeOf(`<SimplePredicate field="x" operator="isMissing">¦<Array/></SimplePredicate>`),
		treeOf(`<CompoundPredicate booleanOperator="and"><True/>¦<Node/><False/></CompoundPredicate>`), treeOf(`<SimpleSetPredicate field="x" booleanOperator="isIn"><Array>1</Array>¦<Array>2</Array></SimpleSetPredicate>`), treeOf(`<SimpleSetPredicate field="x" booleanOperator="isIn"><Array>1¦<b/></Array></SimpleSetPredicate>`), treeOf(`<SimpleSetPredicate field="x" booleanOperator="isIn">¦<True/><Array>1</Array></SimpleSetPredicate>`),
		mining("sum", `<Segment>¦`+leaf+`<True/></Segment>`), mining("sum", `<Segment><True/>¦<False/>`+leaf+`</Segment>`), mining("sum", `<Segment><True/>`+leaf+`¦`+leaf+`</Segment>`), mining("sum", `¦<True/>`), mining("sum", `<Segment><True/><TreeModel functionName="regression"><MiningSchema/>¦<Targets><Target/></Targets><Node><True/></Node></TreeModel></Segment>`),
		pmml(`<DataDictionary>¦<Value value="x"/></DataDictionary>` + tree), pmml(`<DataDictionary><DataField name="x" optype="continuous">¦<Interval/></DataField></DataDictionary>` + tree), pmml(`<DataDictionary><DataField name="c" optype="categorical"><Value value="x">¦<b/></Value></DataField></DataDictionary>` + tree),
		pmml(dictionary + `<TreeModel functionName="regression"><MiningSchema>¦<Foo/></MiningSchema><Node><True/></Node></TreeModel>`), pmml(dictionary + `<TreeModel functionName="regression"><MiningSchema><MiningField name="x">¦<b/></MiningField></MiningSchema><Node><True/></Node></TreeModel>`),
	} {
		refused(t, api.ErrDoc, s)
	}
}

func TestP2001WrongAttributes(t *testing.T) {
	fields := func(s string) string {
		return pmml(dictionary + `<TreeModel functionName="regression"><MiningSchema>` + s + `</MiningSchema><Node><True/></Node></TreeModel>`)
	}
	data := func(s string) string {
		return strings.Replace(treeOf("<True/>"), dictionary, `<DataDictionary>`+s+`</DataDictionary>`, 1)
	}
	tree := func(s string) string {
		return strings.Replace(treeOf("<True/>"), `<TreeModel functionName="regression"`, `¦<TreeModel `+s, 1)
	}
	target := func(s string) string {
		return strings.Replace(treeOf("<True/>"), schema, schema+`<Targets>¦<Target `+s+`/></Targets>`, 1)
	}
	node := func(s string) string {
		return treeOf(`<True/>¦<Node ` + s + `><True/><Node id="k"><True/></Node></Node>`)
	}
	for _, s := range []string{
		data(`¦<DataField optype="continuous"/>`), data(`¦<DataField name="x"/>`), data(`¦<DataField name="x" optype="nominal"/>`), data(`<DataField name="x" optype="continuous"/>¦<DataField name="x" optype=""/>`), data(`¦<DataField optype="ordinal"/>`), data(`<DataField name="x" optype="continuous">¦<Value/></DataField>`), data(`<DataField name="c" optype="categorical">¦<Value property="invalid"/></DataField>`),
		tree(``), tree(`functionName="other"`), tree(`functionName=""`), tree(`functionName="regression" missingValueStrategy="x"`), tree(`functionName="regression" missingValueStrategy=""`), tree(`functionName="regression" noTrueChildStrategy="x"`), tree(`functionName="classification" missingValueStrategy="x"`), tree(`missingValuePenalty="1"`),
		fields(`¦<MiningField/>`), fields(`¦<MiningField name="none"/>`), fields(`¦<MiningField name="x" usageType="group"/>`), fields(`¦<MiningField name="x" usageType=""/>`), fields(`¦<MiningField name="x" invalidValueTreatment="x"/>`), fields(`¦<MiningField name="x" missingValueReplacement="red"/>`), fields(`¦<MiningField name="x" missingValueReplacement=""/>`), fields(`¦<MiningField name="x" missingValueReplacement="1e401"/>`),
		target(`min="x"`), target(`max=""`), target(`rescaleFactor="1/2"`), target(`rescaleConstant="--1"`), target(`castInteger="up"`), target(`castInteger=""`),
		node(`score="x"`), node(`score=""`), node(`score="1 "`), node(`recordCount="many"`), node(`score="` + strings.Repeat("9", 401) + `"`), node(`defaultChild="x"`), node(`defaultChild=""`), treeOf(`<True/>¦<Node defaultChild="k"><True/></Node>`), treeOf(`<True/>¦<Node id="k" defaultChild="k"><True/><Node><True/><Node id="k"><True/></Node></Node></Node>`), treeOf(`<True/>¦<Node defaultChild="k"><True id="k"/></Node>`),
		treeOf(`¦<SimplePredicate operator="isMissing"/>`), treeOf(`¦<SimplePredicate field="y" operator="isMissing"/>`), treeOf(`¦<SimplePredicate field="x"/>`), treeOf(`¦<SimplePredicate field="x" operator="less"/>`), treeOf(`¦<SimplePredicate field="x" operator="lessThan"/>`), treeOf(`¦<SimplePredicate field="c" operator="equal"/>`), treeOf(`¦<SimplePredicate field="x" operator="equal" value="red"/>`), treeOf(`¦<SimplePredicate field="x" operator="equal" value=""/>`),
		treeOf(`¦<SimpleSetPredicate booleanOperator="isIn"><Array>1</Array></SimpleSetPredicate>`), treeOf(`¦<SimpleSetPredicate field="x"><Array>1</Array></SimpleSetPredicate>`), treeOf(`¦<SimpleSetPredicate field="x" booleanOperator="in"><Array>1</Array></SimpleSetPredicate>`), treeOf(`¦<SimpleSetPredicate field="z" booleanOperator="isIn"><Array>1</Array></SimpleSetPredicate>`), treeOf(`<SimpleSetPredicate field="x" booleanOperator="isIn">¦<Array>1 red</Array></SimpleSetPredicate>`), treeOf(`<SimpleSetPredicate field="x" booleanOperator="isIn">¦<Array>"1</Array></SimpleSetPredicate>`), treeOf(`<SimpleSetPredicate field="c" booleanOperator="isIn">¦<Array>"a"b</Array></SimpleSetPredicate>`),
		treeOf(`¦<CompoundPredicate><True/><True/></CompoundPredicate>`), treeOf(`¦<CompoundPredicate booleanOperator="not"><True/><True/></CompoundPredicate>`),
		strings.Replace(mining("", ``), `<Segmentation`, `¦<Segmentation`, 1), strings.Replace(mining("min", ``), `<Segmentation`, `¦<Segmentation`, 1), strings.Replace(strings.Replace(mining("sum", ``), ` multipleModelMethod="sum"`, ``, 1), `<Segmentation`, `¦<Segmentation`, 1), mining("sum", `¦<Segment weight="x"><True/>`+leaf+`</Segment>`), mining("sum", `¦<Segment weight=""><True/>`+leaf+`</Segment>`),
		strings.Replace(mining("sum", ``), `<MiningModel functionName="regression"`, `¦<MiningModel`, 1), strings.Replace(mining("sum", ``), `<MiningModel functionName="regression"`, `¦<MiningModel functionName="clustering"`, 1),
		// fields that are not active
		pmml(dictionary + `<TreeModel functionName="regression"><MiningSchema><MiningField name="x" usageType="target"/></MiningSchema><Node>¦<SimplePredicate field="x" operator="isMissing"/></Node></TreeModel>`),
	} {
		refused(t, api.ErrDoc, s)
	}
}

func TestP2001Kinds(t *testing.T) {
	tree := `<TreeModel functionName="regression">` + schema + `<Node><True/></Node></TreeModel>`
	data := func(s string) string {
		return strings.Replace(treeOf("<True/>"), dictionary, `<DataDictionary>`+s+`</DataDictionary>`, 1)
	}
	for _, name := range []string{"Extension", "Output", "ModelStats", "LocalTransformations", "TransformationDictionary", "ScoreDistribution", "Partition", "RegressionModel", "NeuralNetwork", "Regression", "DecisionTree", "EmbeddedModel"} {
		e := `¦<` + name + `/>`
		for _, s := range []string{e, pmml(dictionary + tree + e), pmml(dictionary + e + tree), pmml(e + dictionary + tree), treeOf(`<True/>` + e), treeOf(e + `<True/>`), treeOf(`<True>` + e + `</True>`), mining("sum", e), mining("sum", `<Segment><True/>`+e+leaf+`</Segment>`), strings.Replace(treeOf("<True/>"), schema, schema+e, 1), data(e), treeOf(`<SimpleSetPredicate field="x" booleanOperator="isIn"><Array>1` + e + `</Array></SimpleSetPredicate>`)} {
			refused(t, api.ErrKind, s)
		}
	}
	for _, s := range []string{
		strings.Replace(treeOf("<True/>"), `<TreeModel functionName="regression"`, `¦<TreeModel functionName="classification"`, 1), strings.Replace(mining("sum", ``), `<MiningModel functionName="regression"`, `¦<MiningModel functionName="classification"`, 1), mining("sum", `<Segment><True/>¦`+strings.Replace(leaf, "regression", "classification", 1)+`</Segment>`), strings.Replace(treeOf("<True/>"), `<TreeModel functionName="regression"`, `¦<TreeModel functionName="regression" missingValuePenalty="1"`, 1),
		data(`¦<DataField name="x" optype="ordinal"/>`), data(`<DataField name="x" optype="continuous">¦<Value value="x" property="missing"/></DataField>`), data(`<DataField name="c" optype="categorical">¦<Value value="x" property=""/></DataField>`), data(`<DataField name="c" optype="categorical"><Value value="x"/>¦<Value value="x" property="invalid"/></DataField>`),
		strings.Replace(mining("majorityVote", ``), `<Segmentation`, `¦<Segmentation`, 1), strings.Replace(mining("weightedMajorityVote", ``), `<Segmentation`, `¦<Segmentation`, 1), strings.Replace(mining("weightedSum", ``), `<Segmentation`, `¦<Segmentation`, 1),
		// of an element first what its attributes are, then what stands, or lacks, in it
		pmml(dictionary + `¦<TreeModel functionName="classification"/>`), pmml(dictionary + `¦<MiningModel functionName="classification"/>`),
		// one that stands wrong is asked for its attributes first
		`¦<TreeModel functionName="classification"/>`, pmml(dictionary + tree + `¦<TreeModel functionName="classification"/>`), pmml(dictionary + tree + `¦<MiningModel functionName="classification"/>`), treeOf(`<True/>¦<Segmentation multipleModelMethod="weightedSum"/>`), treeOf(`<True/>¦<DataField name="x" optype="ordinal"/>`), treeOf(`<True/>¦<Value value="x" property="y"/>`), treeOf(`<True/>¦<TreeModel functionName="regression" missingValuePenalty=""/>`),
	} {
		refused(t, api.ErrKind, s)
	}
	for _, s := range []string{treeOf(`<True/>¦<TreeModel functionName="classification" missingValueStrategy="x"/>`), treeOf(`<True/>¦<Value property="y"/>`), treeOf(`<True/>¦<DataField optype="ordinal"/>`), treeOf(`<True/>¦<TreeModel functionName="regression"/>`), treeOf(`<True/>¦<Target castInteger="x"/>`)} {
		refused(t, api.ErrDoc, s)
	}
}

func TestP2001First(t *testing.T) {
	for _, s := range []string{
		treeOf(`<True/>¦<Node score="x"><Extension/><True/></Node>`), treeOf(`<True/><Node>¦<SimplePredicate field="x" operator="x"/><Extension/></Node><Extension/>`), treeOf(`<CompoundPredicate booleanOperator="and">¦<SimplePredicate field="z" operator="isMissing"/><Extension/></CompoundPredicate>`),
		pmml(`<DataDictionary>¦<DataField name="x"/></DataDictionary><TreeModel functionName="classification"/>`), treeOf(`<SimpleSetPredicate field="x" booleanOperator="isIn">¦<Array>"<Extension/></Array></SimpleSetPredicate>`),
	} {
		refused(t, api.ErrDoc, s)
	}
	for _, s := range []string{treeOf(`<True/>¦<Extension/><Node score="x"/>`), treeOf(`<True>¦<Extension/></True><Node/>`), pmml(dictionary + `¦<TreeModel functionName="classification"><Foo/></TreeModel><Foo/>`)} {
		refused(t, api.ErrKind, s)
	}
}

func TestP2001NotValid(t *testing.T) {
	long := strings.Repeat("x", 61)
	for _, s := range []string{
		treeOf(`<SimplePredicate field="c" operator="lessThan" value="red"/>`), treeOf(`<SimplePredicate field="c" operator="equal" value="` + long + `"/>`), treeOf(`<CompoundPredicate booleanOperator="and"><True/></CompoundPredicate>`), treeOf(`<CompoundPredicate booleanOperator="or"/>`), treeOf(`<SimpleSetPredicate field="x" booleanOperator="isIn"><Array/></SimpleSetPredicate>`), treeOf(`<True/><Node recordCount="-1"><True/></Node>`),
		mining("sum", ``), mining("sum", `<Segment weight="-1"><True/>`+leaf+`</Segment>`), strings.Replace(treeOf("<True/>"), schema, `<MiningSchema><MiningField name="x"/><MiningField name="x"/></MiningSchema>`, 1), strings.Replace(treeOf("<True/>"), schema, `<MiningSchema><MiningField name="c" missingValueReplacement="green"/></MiningSchema>`, 1), strings.Replace(treeOf("<True/>"), schema, schema+`<Targets><Target min="2" max="1"/></Targets>`, 1), strings.ReplaceAll(treeOf("<True/>"), `"x"`, `"`+long+`"`), strings.ReplaceAll(treeOf("<True/>"), `"x"`, `""`), strings.Replace(treeOf("<True/>"), `value="blue"`, `value="red"`, 1),
		treeOf(strings.Repeat(`<True/><Node>`, 40) + `<True/>` + strings.Repeat(`</Node>`, 40)),
	} {
		refused(t, api.ErrDoc, `¦`+s)
		refused(t, api.ErrDoc, `<?xml?> ¦`+s)
	}
	var data, fields, segments strings.Builder
	for i := range 41 {
		fmt.Fprintf(&data, `<DataField name="%d" optype="continuous"/>`, i)
		fmt.Fprintf(&fields, `<MiningField name="%d"/>`, i)
	}
	segments.WriteString(strings.Repeat(`<Segment><True/>`+leaf+`</Segment>`, 101))
	for _, s := range []string{
		pmml(`<DataDictionary>` + data.String() + `</DataDictionary><TreeModel functionName="regression"><MiningSchema>` + fields.String() + `</MiningSchema><Node><True/></Node></TreeModel>`), mining("sum", segments.String()), treeOf(`<True/>` + strings.Repeat(`<Node><True/></Node>`, 2000)),
	} {
		refused(t, api.ErrLimit, `¦`+s)
	}
	if m := read(t, treeOf(`<True/>`+strings.Repeat(`<Node><True/></Node>`, 1999))); len(m.Segments[0].Tree.Nodes) != 2000 {
		t.Error("as many as may be")
	}
}

func TestP2002(t *testing.T) {
	for s, want := range map[string][]string{
		"": nil, " \t\r\n": nil, "a": {"a"}, `a "b c" d`: {"a", "b c", "d"}, " a\tb\n": {"a", "b"}, `""`: {""}, `"" ""`: {"", ""}, `"a\"b"`: {`a"b`}, `"\\"`: {`\`}, `"\n\x"`: {"nx"}, `a"b`: {`a"b`}, `a"b c"`: {`a"b`, `c"`}, `a\ b`: {`a\`, "b"}, `\"a`: {`\"a`}, `"é" é`: {"é", "é"}, "\"\t\"\n": {"\t"}, `"\é"`: {"é"},
	} {
		got, ok := Array(s)
		if !ok || !slices.Equal(got, want) {
			t.Errorf("Array(%q): %q, %v", s, got, ok)
		}
	}
	for _, s := range []string{`"`, `"a`, `a "b`, `"a\"`, `"a\`, `"a"b`, `"a""b"`, `""a`, `x "a"b`} {
		if got, ok := Array(s); ok || len(got) > 0 {
			t.Errorf("Array(%q): %q", s, got)
		}
	}
}

func TestP2003(t *testing.T) {
	r := rand.New(rand.NewSource(1))
	good := strings.SplitAfter(mining("sum", `<Segment><CompoundPredicate booleanOperator="and"><True/><SimpleSetPredicate field="c" booleanOperator="isIn"><Array>a b</Array></SimpleSetPredicate></CompoundPredicate>`+leaf+`</Segment>`), ">")
	valid := 0
	for range 20000 {
		parts := slices.Clone(good)
		for range r.Intn(3) {
			i, j := r.Intn(len(parts)), r.Intn(len(parts))
			switch r.Intn(3) {
			case 0:
				parts[i], parts[j] = parts[j], parts[i]
			case 1:
				parts[i] = ""
			default:
				parts[i] = parts[j]
			}
		}
		s := strings.Join(parts, "")
		m, wrong := Read(s)
		if wrong.Code == 0 && !model.Valid(m) || wrong.Code != 0 && !reflect.DeepEqual(m, api.Model{}) || wrong.At < 0 || wrong.At > len(s) {
			t.Fatalf("%s: %v", s, wrong)
		}
		if wrong.Code == 0 {
			valid++
		}
	}
	if valid < 100 || valid > 15000 {
		t.Error("valid ones:", valid)
	}
}
