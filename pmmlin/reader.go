package pmmlin

import (
	"slices"
	"strings"

	"hornbeam/api"
	"hornbeam/dec"
	"hornbeam/rat"
	"hornbeam/value"
	"hornbeam/xtree"
)

const none = -1

// reader goes through a document, each element ahead of those in it, so that what it finds wrong first stands first.
type reader struct {
	doc    xtree.Doc
	data   map[string]int // the numbers of DataFields
	fields []dataField
	active map[string]int // the numbers of the model's fields
	model  api.Model
	wrong  api.Diag
}

// fail tells of an element that it is wrong; OK is nothing, and only the first time counts.
func (r *reader) fail(code api.Code, e int) {
	if r.wrong.Code == api.OK && code != api.OK {
		r.wrong = api.Diag{Code: code, At: r.doc.Elems[e].At}
	}
}

func (r *reader) name(e int) string { return r.doc.Elems[e].Name }

func (r *reader) attr(e int, name string) (string, bool) {
	text, _, ok := r.doc.Attr(e, name)
	return text, ok
}

// choose tells which of the names an attribute is; one that lacks is what is told for that.
func (r *reader) choose(e int, attr, lacking string, names ...string) (int, bool) {
	text, ok := r.attr(e, attr)
	if !ok {
		text = lacking
	}
	i := slices.Index(names, text)
	return max(i, 0), i >= 0
}

// slot is what may stand in an element: of which names, and how often.
type slot struct {
	names        string // with one blank between
	needed, many bool
}

func one(names string) slot     { return slot{names: names, needed: true} }
func perhaps(names string) slot { return slot{names: names} }
func many(names string) slot    { return slot{names: names, many: true} }

func (s slot) takes(name string) bool { return slices.Contains(strings.Fields(s.names), name) }

// kids tells the elements in an element that fill its slots, in their order. It fails, and ends, where one lacks or stands wrong, and ends where something else is wrong.
func (r *reader) kids(e int, slots ...slot) func(yield func(int) bool) {
	return func(yield func(int) bool) {
		if r.lacks(e, slots) {
			r.fail(api.ErrDoc, e)
		}
		next := 0
	reading:
		for _, kid := range r.doc.Elems[e].Kids {
			if r.wrong.Code != api.OK {
				break reading
			}
			at := place(slots, next, r.name(kid))
			if at == none {
				r.misplaced(kid)
				break reading
			}
			next = at
			if !slots[at].many {
				next++
			}
			if !yield(kid) {
				break reading
			}
		}
	}
}

// empty looks into an element that has nothing in it.
func (r *reader) empty(e int) {
	for range r.kids(e) {
		return
	}
}

// lacks tells whether a slot that is needed is filled by none.
func (r *reader) lacks(e int, slots []slot) bool {
	return slices.ContainsFunc(slots, func(s slot) bool {
		return s.needed && !slices.ContainsFunc(r.doc.Elems[e].Kids, func(kid int) bool { return s.takes(r.name(kid)) })
	})
}

// place tells the slot that a name fills, from the next one on; it goes past none that is needed.
func place(slots []slot, next int, name string) int {
	for at := next; at < len(slots); at++ {
		switch {
		case slots[at].takes(name):
			return at
		case slots[at].needed:
			return none
		}
	}
	return none
}

// misplaced tells of an element that stands wrong what is wrong with it first.
func (r *reader) misplaced(e int) {
	switch r.name(e) {
	case "Extension", "Output", "ModelStats", "LocalTransformations", "TransformationDictionary", "ScoreDistribution", "Partition", "RegressionModel", "NeuralNetwork", "Regression", "DecisionTree", "EmbeddedModel":
		r.fail(api.ErrKind, e)
	}
	r.fail(r.attrCode(e), e)
	r.fail(api.ErrDoc, e)
}

// attrCode tells what is wrong with the attributes of those elements that may have some that are not taken.
func (r *reader) attrCode(e int) api.Code {
	switch r.name(e) {
	case "TreeModel":
		_, isMissing := r.missingStrategy(e)
		_, isNoTrue := r.noTrueStrategy(e)
		_, penalty := r.attr(e, "missingValuePenalty")
		return worst(r.functionCode(e), docUnless(isMissing), docUnless(isNoTrue), kindIf(penalty))
	case "MiningModel":
		return r.functionCode(e)
	case "Segmentation":
		name, _ := r.attr(e, "multipleModelMethod")
		return worst(docUnless(method(name) > 0 || isVote(name)), kindIf(isVote(name)))
	case "DataField":
		_, isName := r.attr(e, "name")
		optype, ok := r.choose(e, "optype", "", "continuous", "categorical", "ordinal")
		return worst(docUnless(isName), docUnless(ok), kindIf(optype > 1))
	case "Value":
		_, isValue := r.attr(e, "value")
		property, ok := r.attr(e, "property")
		return worst(docUnless(isValue), kindIf(ok && property != "valid"))
	}
	return api.OK
}

func docUnless(ok bool) api.Code {
	if ok {
		return api.OK
	}
	return api.ErrDoc
}

func kindIf(not bool) api.Code {
	if not {
		return api.ErrKind
	}
	return api.OK
}

// worst tells the code that counts: that an attribute is none ahead of that it is not taken.
func worst(codes ...api.Code) api.Code {
	out := api.OK
searching:
	for _, code := range codes {
		switch code {
		case api.ErrDoc:
			out = code
			break searching
		case api.ErrKind:
			out = code
		}
	}
	return out
}

func (r *reader) functionCode(e int) api.Code {
	function, ok := r.choose(e, "functionName", "", "regression", "classification")
	return worst(docUnless(ok), kindIf(function > 0))
}

func (r *reader) missingStrategy(e int) (int, bool) {
	at, ok := r.choose(e, "missingValueStrategy", "none", "none", "lastPrediction", "nullPrediction", "defaultChild", "weightedConfidence", "aggregateNodes")
	return api.SkipIt + at, ok
}

func (r *reader) noTrueStrategy(e int) (int, bool) {
	at, ok := r.choose(e, "noTrueChildStrategy", "returnNullPrediction", "returnLastPrediction", "returnNullPrediction")
	return api.LastScore + at, ok
}

// method tells that of a multipleModelMethod (0: none that is taken).
func method(name string) int {
	switch name {
	case "sum":
		return api.SumOf
	case "average":
		return api.AverageOf
	case "weightedAverage":
		return api.WeightedOf
	case "median":
		return api.MedianOf
	case "max":
		return api.MaxOf
	case "selectFirst":
		return api.SelectFirst
	case "selectAll":
		return api.SelectAll
	case "modelChain":
		return api.Chain
	}
	return 0
}

func isVote(name string) bool {
	return name == "majorityVote" || name == "weightedMajorityVote" || name == "weightedSum"
}

// literal tells the rat.Text of an attribute that is a literal ("": it lacks).
func (r *reader) literal(e int, attr string) string {
	text, ok := r.attr(e, attr)
	if !ok {
		return ""
	}
	return r.number(e, text).Text()
}

func (r *reader) number(e int, text string) rat.Rat {
	v, code := dec.Parse(text)
	if code != api.OK {
		r.fail(api.ErrDoc, e)
	}
	return v
}

// value tells that of a text for a field of a kind.
func (r *reader) value(e int, text string, kind int) api.Value {
	if kind == api.Continuous {
		return value.Of(r.number(e, text))
	}
	return value.Cat(text)
}
