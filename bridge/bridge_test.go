package bridge

import (
	"fmt"
	"math"
	"math/rand"
	"slices"
	"strings"
	"testing"

	"hornbeam/api"
	"hornbeam/lift"
	"hornbeam/lower"
	"hornbeam/model"
	"hornbeam/norm"
	"hornbeam/onnx"
	"hornbeam/onnxio"
	"hornbeam/onnxrun"
	"hornbeam/pmmlout"
)

// small is 1 below 5, and 2 from there on.
const small = ` <PMML version="4.4"><DataDictionary><DataField name="x" optype="continuous"/></DataDictionary><TreeModel functionName="regression" missingValueStrategy="defaultChild"><MiningSchema><MiningField name="x"/></MiningSchema><Node defaultChild="b"><True/><Node score="1"><SimplePredicate field="x" operator="lessThan" value="5"/></Node><Node id="b" score="2"><SimplePredicate field="x" operator="greaterOrEqual" value="5"/></Node></Node></TreeModel></PMML>`

func bits(v float64) uint64 { return uint64(math.Float32bits(float32(v))) }

func bytesOf(t *testing.T, e api.Ensemble) string {
	t.Helper()
	b, code := onnxio.Write(e)
	if code != api.OK {
		t.Fatal(code)
	}
	return b
}

func leaf() api.Ensemble {
	return api.Ensemble{Targets: 1, Aggregate: "SUM", Post: "NONE", Nodes: []api.ENode{{Mode: api.Leaf}}, Leaves: []api.ELeaf{{Weight: bits(3)}}}
}

func TestP2701Kind(t *testing.T) {
	for b, want := range map[string]int{"<": Pmml, " \t\r\n<PMML": Pmml, "  <PMML": Pmml, "": Onnx, " ": Onnx, "x<": Onnx, "\xff<": Onnx, ":<": Onnx, "\u00a0<": Onnx, "\x0b<": Onnx} {
		if got := Kind(b); got != want {
			t.Errorf("Kind(%q): %d", b, got)
		}
	}
}

func TestP2701Import(t *testing.T) {
	m, wrong := Import(small)
	if wrong != (api.Diag{}) || !model.Valid(m) || len(m.Segments[0].Tree.Nodes) != 3 {
		t.Error(wrong, m)
	}
	e := leaf()
	want, _, _ := lift.Model(e)
	if m, wrong := Import(bytesOf(t, e)); wrong != (api.Diag{}) || !model.Same(m, want) {
		t.Error(wrong, m)
	}
	e.Targets = 2
	zero := leaf()
	zero.Post = "SOFTMAX_ZERO"
	for b, want := range map[string]api.Diag{" <a/>": {Code: api.ErrDoc, At: 1}, "<a>": {Code: api.ErrXml, At: 3}, "": {Code: api.ErrDoc}, "\x08\x01\xff": {Code: api.ErrWire, At: 2}, bytesOf(t, e): {Code: api.ErrKind, What: "targets"}, bytesOf(t, zero): {Code: api.ErrKind, What: "post"}} {
		m, wrong := Import(b)
		if wrong != want || !model.Same(m, api.Model{}) {
			t.Errorf("Import(%q): %v", b, wrong)
		}
		for _, kind := range []int{Pmml, Onnx, 7} {
			if text, wrong := Translate(b, kind); wrong != want || text != "" {
				t.Errorf("Translate(%q): %v", b, wrong)
			}
		}
		if text, wrong := Score(b, "x"); wrong != want || text != "" {
			t.Errorf("Score(%q): %v", b, wrong)
		}
	}
}

func TestP2701Export(t *testing.T) {
	m, _ := Import(small)
	text, wrong := Export(m, Pmml)
	if want, _ := pmmlout.Write(m); wrong != (api.Diag{}) || text != want || text == "" {
		t.Error(wrong, text)
	}
	e, _, _ := lower.Ensemble(m)
	if b, wrong := Export(m, Onnx); wrong != (api.Diag{}) || b != bytesOf(t, e) {
		t.Error(wrong, b)
	}
	exact, minimum, median := m, m, m
	exact.Target.Constant = "1/3"
	minimum.Method = api.MinOf
	median.Method = api.MedianOf
	long := m
	for range 6 {
		long.Segments = append(long.Segments, long.Segments...)
	}
	for i, c := range []struct {
		m    api.Model
		kind int
		want api.Diag
	}{
		{api.Model{}, Pmml, api.Diag{Code: api.ErrArg}}, {api.Model{}, Onnx, api.Diag{Code: api.ErrArg, What: "model"}}, {m, 0, api.Diag{Code: api.ErrArg}}, {m, 3, api.Diag{Code: api.ErrArg}}, {exact, Pmml, api.Diag{Code: api.ErrExact}}, {exact, Onnx, api.Diag{Code: api.ErrExact, What: "constant"}}, {minimum, Pmml, api.Diag{Code: api.ErrKind}}, {minimum, Onnx, api.Diag{}}, {median, Onnx, api.Diag{Code: api.ErrKind, What: "method"}}, {median, Pmml, api.Diag{}}, {long, Onnx, api.Diag{}}, {long, Pmml, api.Diag{}},
	} {
		text, wrong := Export(c.m, c.kind)
		if wrong != c.want || (text == "") != (wrong.Code != 0) {
			t.Errorf("number %d: %v", i, wrong)
		}
	}
	deep := m
	for range 600 {
		n := len(deep.Segments[0].Tree.Nodes)
		if n > 1900 {
			break
		}
		deep.Segments[0].Tree = grow(deep.Segments[0].Tree)
	}
	if text, wrong := Export(deep, Onnx); wrong.Code != api.OK && (wrong != api.Diag{Code: api.ErrLimit}) || (text == "") != (wrong.Code != 0) {
		t.Error("a large one:", wrong)
	}
}

// grow puts two leaves below the last leaf of a tree, or begins anew below the first one.
func grow(t api.Tree) api.Tree {
	out := t
	out.Nodes = slices.Clone(t.Nodes)
	queue := slices.IndexFunc(out.Nodes, func(n api.Node) bool { return len(n.Kids) == 0 })
	n := len(out.Nodes)
	first, second := out.Nodes[1], out.Nodes[2]
	first.Kids, second.Kids, first.Default, second.Default = nil, nil, -1, -1
	first.Score, second.Score = "1", "2"
	out.Nodes[queue].Kids, out.Nodes[queue].Default = []int{n, n + 1}, n
	out.Nodes = append(out.Nodes, first, second)
	return out
}

func TestP2702(t *testing.T) {
	for i, c := range []struct {
		b    string
		row  []string
		want string
	}{
		{small, []string{"4.99"}, "1 0@0"}, {small, []string{"5"}, "2 0@0"}, {small, []string{"?"}, "2 0@0"}, {small, []string{":red"}, "- 0@0"}, {small, []string{"1/3"}, "1 0@0"},
		{small, nil, " 16@0"}, {small, []string{"1", "2"}, " 16@0"}, {small, []string{"x"}, " 3@0"}, {small, []string{"1", "x", "y"}, " 3@1"}, {small, []string{"1", "?", "1e999"}, " 2@2"},
		{small, []string{strings.Repeat("7", 401)}, "2 0@0"}, {small, []string{"-" + strings.Repeat("7", 1200)}, "1 0@0"}, {small, []string{"+" + strings.Repeat("7", 401)}, " 2@0"},
		{bytesOf(t, leaf()), nil, "3 0@0"},
	} {
		text, wrong := Score(c.b, c.row...)
		if got := fmt.Sprintf("%s %d@%d", text, wrong.Code, wrong.At); got != c.want {
			t.Errorf("number %d: %s", i, got)
		}
	}
	for want, nums := range map[string][]string{"": nil, "-": {""}, "3/2 -": {"3/2", ""}, "1": {"1"}, "- - 2": {"", "", "2"}} {
		if got := Result(api.Result{Nums: nums}); got != want {
			t.Errorf("Result(%q): %q", nums, got)
		}
	}
	hidden := strings.Replace(small, `<SimplePredicate field="x" operator="lessThan" value="5"/>`, `<CompoundPredicate booleanOperator="and"><True/><SimplePredicate field="x" operator="lessThan" value="5"/></CompoundPredicate>`, 1)
	plain, _ := Translate(small, Onnx)
	if b, wrong := Translate(hidden, Onnx); wrong.Code != 0 || b != plain || b == "" {
		t.Error("what is translated is not made plain:", wrong)
	}
	if text, wrong := Translate(small, 9); text != "" || wrong != (api.Diag{Code: api.ErrArg}) {
		t.Error(text, wrong)
	}
}

func TestP2703(t *testing.T) {
	a, _ := Import(small)
	b, _ := Import(strings.Replace(small, `score="2"`, `score="3"`, 1))
	row := func(s string) []api.Value { return []api.Value{{Kind: api.Number, Num: s}} }
	for i, c := range []struct {
		a, b api.Model
		rows [][]api.Value
		want bool
	}{
		{a, b, nil, true}, {a, a, [][]api.Value{row("1"), row("7"), {{}}, nil}, true}, {a, b, [][]api.Value{row("1"), nil, row("x")}, true}, {a, b, [][]api.Value{row("1"), row("7")}, false}, {a, b, [][]api.Value{{{}}}, false}, {a, api.Model{}, nil, true}, {a, api.Model{}, [][]api.Value{row("1")}, false}, {api.Model{}, api.Model{}, [][]api.Value{row("1"), nil}, true}, {a, api.Model{}, [][]api.Value{nil}, false}, {a, api.Model{}, [][]api.Value{row("x")}, true},
	} {
		if Equal(c.a, c.b, c.rows...) != c.want {
			t.Errorf("number %d: %v", i, !c.want)
		}
	}
	l := []string{small, "<a/>", bytesOf(t, leaf())}
	told := ""
	seq := All(l, Pmml)
	l[0], l[2] = "", ""
	for range 2 {
		told = ""
		seq(func(i int, text string, wrong api.Diag) bool {
			told += fmt.Sprint(i, len(text) > 0, wrong.Code, " ")
			return i < 2
		})
		if told != "0 true 0 1 false 12 2 true 0 " {
			t.Error(told)
		}
	}
	calls := 0
	seq(func(int, string, api.Diag) bool { calls++; return calls < 2 })
	All(nil, Pmml)(func(int, string, api.Diag) bool { calls = 99; return true })
	if calls != 2 {
		t.Error("calls behind a false, or of none:", calls)
	}
}

// grown tells a tree's nodes: leaves are split, again and again.
func grown(r *rand.Rand, tree int) []api.ENode {
	out := []api.ENode{{Tree: tree, Mode: api.Leaf}}
	for range r.Intn(6) {
		n := len(out)
		up := &out[r.Intn(n)]
		for up.Mode != api.Leaf {
			up = &out[r.Intn(n)]
		}
		up.Mode, up.Feature, up.Value, up.True, up.False, up.Tracks = 1+r.Intn(6), r.Intn(3), some(r), n+1, n, r.Intn(2) == 0
		out = append(out, api.ENode{Tree: tree, Node: n, Mode: api.Leaf}, api.ENode{Tree: tree, Node: n + 1, Mode: api.Leaf})
	}
	return out
}

func some(r *rand.Rand) uint64 {
	return []uint64{bits(0.1), bits(-2), 0, 1 << 31, bits(math.MaxFloat32), 1, bits(7)}[r.Intn(7)]
}

func someEnsemble(r *rand.Rand) api.Ensemble {
	e := api.Ensemble{Targets: 1, Aggregate: []string{"SUM", "AVERAGE", "MAX"}[r.Intn(3)], Post: "NONE"}
	if r.Intn(2) == 0 {
		e.Base = []uint64{some(r)}
	}
	for tree := range 1 + r.Intn(4) {
		for _, n := range grown(r, 3*tree) {
			e.Nodes = append(e.Nodes, n)
			if n.Mode == api.Leaf {
				e.Leaves = append(e.Leaves, api.ELeaf{Tree: n.Tree, Node: n.Node, Weight: some(r)}, api.ELeaf{Tree: n.Tree, Node: n.Node, Weight: some(r)})
			} else {
				e.Features = max(e.Features, n.Feature+1)
			}
		}
	}
	return e
}

func textsOf(row []uint64) []string {
	values, _ := lift.Row(row)
	out := []string{}
	for _, v := range values {
		text := v.Num
		if v.Kind == api.Missing {
			text = "?"
		}
		out = append(out, text)
	}
	return out
}

// TestP2704 is W1, W2, W3 and W4 for documents.
func TestP2704(t *testing.T) {
	r := rand.New(rand.NewSource(1))
	for range 400 {
		e := someEnsemble(r)
		if word, ok := onnx.Check(e); !ok {
			t.Fatal(word)
		}
		first := bytesOf(t, e)
		text, wrong := Translate(first, Pmml)
		if wrong.Code != api.OK {
			t.Fatal(wrong)
		}
		back, wrong := Translate(text, Onnx)
		if wrong.Code != api.OK && wrong.What != "score" { // the Weights of one leaf together are perhaps no binary32 number
			t.Fatal(wrong, text)
		}
		if same, code := Translate(text, Pmml); code.Code != api.OK || same != text {
			t.Fatal("written in another way:", same, text)
		}
		for range 15 {
			row := []uint64{some(r), some(r), some(r)}[:e.Features]
			if len(row) > 0 && r.Intn(2) == 0 {
				row[0] = 0x7fc00000
			}
			nums, _ := onnxrun.Score(e, row)
			want := strings.Join(nums, " ")
			for i, b := range []string{first, text, back} {
				got, wrong := Score(b, textsOf(row)...)
				if b != "" && (got != want || wrong.Code != 0) {
					t.Fatalf("document %d of %q: %q, %v, not %q", i, textsOf(row), got, wrong, want)
				}
			}
		}
	}
}

func TestP2704Refused(t *testing.T) {
	r := rand.New(rand.NewSource(2))
	for range 8000 {
		b := []byte([]string{small, bytesOf(t, leaf()), bytesOf(t, someEnsemble(r))}[r.Intn(3)])
		for range r.Intn(4) {
			b[r.Intn(len(b))] = byte(r.Intn(256))
		}
		m, wrong := Import(string(b))
		if wrong.Code == api.OK && !model.Valid(m) || wrong.Code != api.OK && !model.Same(m, api.Model{}) || wrong.At < 0 || wrong.At > len(b) {
			t.Fatalf("%q: %v", b, wrong)
		}
		if plain, code := norm.Model(m); wrong.Code == api.OK && (code != api.OK || !norm.Normal(plain)) {
			t.Fatalf("%q: not plain", b)
		}
	}
}
