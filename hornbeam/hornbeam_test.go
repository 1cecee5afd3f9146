package hornbeam

import (
	"fmt"
	"math/rand"
	"slices"
	"strings"
	"testing"

	"hornbeam/api"
	"hornbeam/bridge"
	"hornbeam/model"
	"hornbeam/norm"
	"hornbeam/onnxio"
	"hornbeam/pmmlout"
)

// small is 1 below 5, and 2 from there on; c is not asked.
const small = `<PMML version="4.4"><DataDictionary><DataField name="x" optype="continuous"/><DataField name="c d" optype="categorical"/></DataDictionary><TreeModel functionName="regression" missingValueStrategy="defaultChild"><MiningSchema><MiningField name="x"/><MiningField name="c d"/></MiningSchema><Node defaultChild="b"><True/><Node score="1"><CompoundPredicate booleanOperator="and"><True/><SimplePredicate field="x" operator="lessThan" value="5"/></CompoundPredicate></Node><Node id="b" score="2"><SimplePredicate field="x" operator="greaterOrEqual" value="5"/></Node></Node></TreeModel></PMML>`

func leaf() string {
	b, _ := onnxio.Write(api.Ensemble{Targets: 1, Aggregate: "MIN", Post: "PROBIT", Nodes: []api.ENode{{Mode: api.Leaf}}, Leaves: []api.ELeaf{{Weight: 0x3fc00000}}})
	return b
}

func step(word string, text ...string) api.Step { return api.Step{Word: word, Text: text} }

func TestP2801(t *testing.T) {
	m, _ := bridge.Import(small)
	plain, _ := norm.Model(m)
	written, _ := pmmlout.Write(m)
	plainText, _ := pmmlout.Write(plain)
	w := New()
	for i, c := range []struct {
		s    api.Step
		want string
	}{
		// a zero model is at hand
		{step("score"), "E_ARG"}, {step("score", "1"), "E_ARG"}, {step("score", "x"), "E_FORM"}, {step("export", "pmml"), "E_ARG@0"}, {step("export", "onnx"), "E_ARG@0"}, {step("normal"), "E_ARG"}, {step("fields"), "0"}, {step("same", Hex(small)), "false"},
		{step("load", Hex("  <a>")), "E_XML@5"}, {step("load", "-"), "E_DOC@0"}, {step("load", "0801ff"), "E_WIRE@2"}, {step("same", "3c612f3e"), "E_DOC@0"}, {step("load", Hex(strings.Repeat(" ", 60001)+"<")), "E_LIMIT@0"}, {step("fields"), "0"},
		{step("load", Hex(small)), "OK 1 3"}, {step("fields"), "2 x:1 c d:2"}, {step("score", "4.5", ":a"), "OK 1"}, {step("score", "?", "?"), "OK 2"}, {step("score", "11/2", ":a b"), "OK 2"}, {step("score", ":red", "?"), "OK -"},
		{step("score"), "E_ARITY"}, {step("score", "1"), "E_ARITY"}, {step("score", "1", "x"), "E_FORM"}, {step("score", "1", "1e401"), "E_LIMIT"}, {step("score", ""), "E_FORM"}, {step("score", slices.Repeat([]string{"?"}, 40)...), "E_ARITY"},
		{step("same", Hex(small)), "true"}, {step("same", Hex(leaf())), "false"}, {step("same", "-"), "E_DOC@0"}, {step("export", "pmml"), Hex(written)}, {step("export", "onnx"), "E_KIND@0"},
		{step("normal"), "OK"}, {step("same", Hex(small)), "false"}, {step("same", Hex(plainText)), "true"}, {step("export", "pmml"), Hex(plainText)}, {step("normal"), "OK"}, {step("score", "4.5", ":a"), "OK 1"}, {step("load", "3c"), "E_XML@0"}, {step("same", Hex(plainText)), "true"},
		{step("load", Hex(leaf())), "OK 1 1"}, {step("score"), "OK 3/2"}, {step("fields"), "0"}, {step("export", "onnx"), Hex(leaf())}, {step("export", "pmml"), "E_KIND@0"},
		// steps that are none
		{step(""), ""}, {step("Load", Hex(small)), ""}, {step("load"), ""}, {step("load", ""), ""}, {step("load", "3"), ""}, {step("load", "3C"), ""}, {step("load", "--"), ""}, {step("load", "-", "-"), ""}, {step("same"), ""}, {step("same", "zz"), ""}, {step("export"), ""}, {step("export", "PMML"), ""}, {step("export", "pmml", "onnx"), ""}, {step("normal", ""), ""}, {step("fields", "x"), ""}, {step("score", slices.Repeat([]string{"?"}, 41)...), ""}, {step("# normal"), ""},
		{step("score"), "OK 3/2"},
	} {
		if got := w.Step(c.s); got != c.want {
			t.Errorf("number %d, %.40v: %.200q, not %.200q", i, c.s, got, c.want)
		}
	}
}

func TestP2801Model(t *testing.T) {
	w := New()
	if !model.Same(w.Model(), api.Model{}) {
		t.Error("a new World has a model")
	}
	w.Step(step("load", Hex(small)))
	want, _ := bridge.Import(small)
	m := w.Model()
	if !model.Same(m, want) {
		t.Error(m)
	}
	m.Segments[0].Tree.Nodes[1].Score = "77"
	m.Segments[0].Tree.Nodes[2].Pred.Values[0].Num = "77"
	m.Fields[0].Name = "spoilt"
	if !model.Same(w.Model(), want) {
		t.Error("what is told shares memory")
	}
}

func TestP2802Parse(t *testing.T) {
	told := func(text string) string {
		steps, code, line := Parse(text)
		if code != 0 && len(steps) > 0 {
			t.Error("steps beside an error")
		}
		out := fmt.Sprint(code, "@", line)
		for _, s := range steps {
			out += " " + s.Word + fmt.Sprint(s.Text)
		}
		return out
	}
	for text, want := range map[string]string{
		"": "0@0", "\n\n": "0@0", "  \n# x\n#\n   ": "0@0", "normal": "0@0 normal[]", "normal\n": "0@0 normal[]", "  score   1  :a \nfields\n": "0@0 score[1 :a] fields[]", "score": "0@0 score[]", "load -\nsame 00ff\nexport onnx\nexport pmml": "0@0 load[-] same[00ff] export[onnx] export[pmml]", "score x #": "0@0 score[x #]",
		"x": "90@1", "normal\nx\ny": "90@2", "\n# load\n load\n": "90@3", "load 0": "90@1", "load 0A": "90@1", "load 00 00": "90@1", "same": "90@1", "export": "90@1", "export xml": "90@1", "normal 1": "90@1", "fields\nfields x": "90@2", "  # remark": "90@1", "normal\r\n": "90@1", "\tnormal": "90@1", "score" + strings.Repeat(" 1", 41): "90@1", "Score": "90@1",
	} {
		if got := told(text); got != want {
			t.Errorf("Parse(%q): %s, not %s", text, got, want)
		}
	}
	if got := told("score" + strings.Repeat(" 1", 40)); !strings.HasPrefix(got, "0@0") {
		t.Error(got)
	}
	most := strings.Repeat("#\nnormal\n", 500)
	if got := told(most); !strings.HasPrefix(got, "0@0") {
		t.Error(got)
	}
	for text, want := range map[string]string{most + "\nnormal": "2@1002", most + "normal\nnormal\n": "2@1001", most + "normal\nx": "90@1002", most + "x": "90@1001", strings.Repeat("#", 200000): "0@0", strings.Repeat("#", 200001): "2@0", strings.Repeat("x", 200001): "2@0"} {
		if got := told(text); got != want {
			t.Errorf("%.20q, %d bytes: %s, not %s", text, len(text), got, want)
		}
	}
}

func TestP2802Print(t *testing.T) {
	text, code := Print(step("load", "-"), step("score", "1", ":a"), step("score"), step("export", "pmml"), step("normal"), step("same", "00"), step("fields"))
	if want := "load -\nscore 1 :a\nscore\nexport pmml\nnormal\nsame 00\nfields\n"; text != want || code != api.OK {
		t.Errorf("%q, %d", text, code)
	}
	if text, code := Print(); text != "" || code != api.OK {
		t.Error(text, code)
	}
	for i, s := range []api.Step{step(""), step("x"), step("load"), step("load", "0"), step("load", "00", "00"), step("export", "x"), step("normal", ""), step("score", ""), step("score", ":a b"), step("score", "1\n2"), step("score", slices.Repeat([]string{"1"}, 41)...), step("load", "00 "), step(" normal")} {
		if text, code := Print(step("normal"), s); text != "" || code != api.ErrScript {
			t.Errorf("number %d: %q, %d", i, text, code)
		}
	}
	many := slices.Repeat([]api.Step{step("normal")}, 501)
	if text, code := Print(many[:500]...); len(text) != 3500 || code != api.OK {
		t.Error(len(text), code)
	}
	if text, code := Print(many...); text != "" || code != api.ErrLimit {
		t.Error(len(text), code)
	}
	if text, code := Print(append(many, step("x"))...); text != "" || code != api.ErrScript {
		t.Error(len(text), code)
	}
	hex := strings.Repeat("00", 99997)
	if text, code := Print(step("load", hex)); len(text) != 200000 || code != api.OK {
		t.Error(len(text), code)
	}
	if text, code := Print(step("load", hex), step("normal")); text != "" || code != api.ErrLimit {
		t.Error(len(text), code)
	}
}

func TestP2802Run(t *testing.T) {
	for text, want := range map[string]string{
		"": "", "# x\n": "", "score 1": "> score 1\nE_ARG\n", "x": "script error E_SCRIPT at 1\n", "normal\n\nload": "script error E_SCRIPT at 3\n", strings.Repeat("normal\n", 501): "script error E_LIMIT at 501\n", strings.Repeat("#", 200001): "script error E_LIMIT at 0\n",
		"load " + Hex(leaf()) + "\n  score  \nfields\nload -\nscore ?": "> load " + Hex(leaf()) + "\nOK 1 1\n> score\nOK 3/2\n> fields\n0\n> load -\nE_DOC@0\n> score ?\nE_ARITY\n",
	} {
		for range 2 {
			if got := Run(text); got != want {
				t.Errorf("Run(%.40q): %q, not %q", text, got, want)
			}
		}
	}
}

func TestP2801Hex(t *testing.T) {
	for b, want := range map[string]string{"": "-", "\x00": "00", "\xffA\x0a": "ff410a", "-": "2d"} {
		if got := Hex(b); got != want {
			t.Errorf("Hex(%q): %s", b, got)
		}
		if back, ok := Unhex(want); back != b || !ok {
			t.Errorf("Unhex(%q): %q, %v", want, back, ok)
		}
	}
	for _, s := range []string{"", "0", "000", "0A", "A0", "0g", "g0", "--", "-0", "0x", " 00", "00 "} {
		if b, ok := Unhex(s); b != "" || ok {
			t.Errorf("Unhex(%q): %q", s, b)
		}
	}
}

func TestP2803(t *testing.T) {
	var none *World
	for _, w := range []*World{none, {}} {
		if got := w.Step(step("fields")) + w.Step(step("load", Hex(small))) + w.Step(step("normal")); got != "" || !model.Same(w.Model(), api.Model{}) {
			t.Errorf("a World that is none: %q", got)
		}
	}
	r := rand.New(rand.NewSource(1))
	words := []string{"load", "score", "export", "normal", "same", "fields", "pmml", "onnx", "-", "00", Hex(small), Hex(leaf()), "1", "?", ":a", "\n", "\n", "\n", " ", "#", "1.5"}
	for range 3000 {
		var text strings.Builder
		for range r.Intn(12) {
			text.WriteString(words[r.Intn(len(words))] + " ")
		}
		got := Run(text.String())
		steps, code, line := Parse(text.String())
		if code != api.OK {
			if got != fmt.Sprintf("script error E_SCRIPT at %d\n", line) || line < 1 {
				t.Fatalf("%q: %q", text.String(), got)
			}
			continue
		}
		printed, code := Print(steps...)
		again, _, _ := Parse(printed)
		if code != api.OK || len(again) != len(steps) || Run(printed) != got || strings.Count(got, "\n") != 2*len(steps) {
			t.Fatalf("%q: %q, %q", text.String(), printed, got)
		}
	}
}
