package xtree

import (
	"fmt"
	"math/rand"
	"reflect"
	"slices"
	"strings"
	"testing"

	"hornbeam/api"
	"hornbeam/xtok"
)

func parse(t *testing.T, s string) Doc {
	t.Helper()
	d, wrong := Parse(s)
	if wrong.Code != api.OK {
		t.Fatalf("Parse(%.40q): %v", s, wrong)
	}
	return d
}

// deep nests elements.
func deep(n int) string { return strings.Repeat("<a>", n) + strings.Repeat("</a>", n) }

func TestP801Parse(t *testing.T) {
	d := parse(t, " <?p?><a x='1' y=''>t<b>u</b>v<!-- -->w<c><d z='2'/></c><![CDATA[<]]></a>\n<!-- -->")
	want := []Elem{
		{"a", 6, -1, []xtok.Attr{{Name: "x", Value: "1", At: 9}, {Name: "y", Value: "", At: 15}}, []int{1, 2}, "tvw<"},
		{"b", 21, 0, nil, nil, "u"},
		{"c", 39, 0, nil, []int{3}, ""},
		{"d", 42, 2, []xtok.Attr{{Name: "z", Value: "2", At: 45}}, nil, ""},
	}
	if fmt.Sprint(d.Elems) != fmt.Sprint(want) {
		t.Errorf("%v, not %v", d.Elems, want)
	}
	for _, s := range []string{"<a/>", "<a></a>", "&#32;<a/>&#10;<![CDATA[ \t]]>", deep(api.MaxDeep), "<a>" + strings.Repeat("<b/>", api.MaxElems-1) + "</a>"} {
		if !parse(t, s).Valid() {
			t.Errorf("%.40q is not valid", s)
		}
	}
}

func TestP801Wrong(t *testing.T) {
	many := "<a>" + strings.Repeat("<b/>", api.MaxElems) + "</a>"
	for s, want := range map[string]api.Diag{
		"":                         {Code: api.ErrXml, At: 0},
		" \n":                      {Code: api.ErrXml, At: 2},
		"<!-- x -->":               {Code: api.ErrXml, At: 10},
		"<a>":                      {Code: api.ErrXml, At: 3},
		"<a><b></b> ":              {Code: api.ErrXml, At: 11},
		"<a></b>":                  {Code: api.ErrXml, At: 3},
		"<a><b></a></b>":           {Code: api.ErrXml, At: 6},
		"</a>":                     {Code: api.ErrXml, At: 0},
		"<a/></a>":                 {Code: api.ErrXml, At: 4},
		"<a></A>":                  {Code: api.ErrXml, At: 3},
		"<a/> <b/>":                {Code: api.ErrXml, At: 5},
		"<a></a><a>":               {Code: api.ErrXml, At: 7},
		"x<a/>":                    {Code: api.ErrXml, At: 0},
		" <a/> y":                  {Code: api.ErrXml, At: 5},
		"<a/><![CDATA[x]]>":        {Code: api.ErrXml, At: 4},
		"\ufeff<a/>":               {Code: api.ErrXml, At: 0},
		"x":                        {Code: api.ErrXml, At: 0},
		"<a></b>&":                 {Code: api.ErrXml, At: 7},
		"<a></b>\xff":              {Code: api.ErrXml, At: 7},
		deep(api.MaxDeep + 1):      {Code: api.ErrLimit, At: 3 * api.MaxDeep},
		many:                       {Code: api.ErrLimit, At: 3 + 4*(api.MaxElems-1)},
		many + "</b>":              {Code: api.ErrLimit, At: 3 + 4*(api.MaxElems-1)},
		deep(101) + "<":            {Code: api.ErrXml, At: 7 * 101},
		"<a/><b>" + deep(200):      {Code: api.ErrXml, At: 4},
		strings.Repeat(" ", 60001): {Code: api.ErrLimit, At: 0},
	} {
		d, wrong := Parse(s)
		if wrong != want || len(d.Elems) != 0 {
			t.Errorf("Parse(%.40q): %v, not %v", s, wrong, want)
		}
	}
}

func TestP802Looks(t *testing.T) {
	d := parse(t, "<a x='1' y='2'><b/><c><b/><d/></c><b>t</b></a>")
	root, is := d.Root()
	if !is || root.Name != "a" || len(root.Attrs) != 2 || !slices.Equal(root.Kids, []int{1, 2, 5}) {
		t.Error(root, is)
	}
	root.Kids[0], root.Attrs[0].Value = 99, "spoilt"
	if again, _ := d.Root(); again.Kids[0] != 1 || again.Attrs[0].Value != "1" {
		t.Error("the root that is told is the document's own")
	}
	if root, is := (Doc{}).Root(); is || root.Name != "" {
		t.Error(root)
	}
	for _, c := range []struct {
		e    int
		name string
		want string
	}{{0, "x", "1 3 true"}, {0, "y", "2 9 true"}, {0, "z", " 0 false"}, {0, "", " 0 false"}, {1, "x", " 0 false"}, {-1, "x", " 0 false"}, {6, "x", " 0 false"}} {
		value, at, is := d.Attr(c.e, c.name)
		if got := fmt.Sprint(value, " ", at, " ", is); got != c.want {
			t.Errorf("Attr(%d, %q): %s", c.e, c.name, got)
		}
	}
	for _, c := range []struct {
		e    int
		name string
		want []int
	}{{0, "b", []int{1, 5}}, {0, "", []int{1, 2, 5}}, {0, "d", nil}, {2, "b", []int{3}}, {2, "", []int{3, 4}}, {1, "", nil}, {-1, "", nil}, {6, "", nil}} {
		if got := d.Kids(c.e, c.name); !slices.Equal(got, c.want) {
			t.Errorf("Kids(%d, %q): %v", c.e, c.name, got)
		}
	}
	d.Kids(0, "")[0] = 99
	if !d.Valid() {
		t.Error("the kids that are told are the document's own")
	}
	for e, want := range map[int]int{-1: 0, 0: 1, 1: 2, 2: 2, 3: 3, 5: 2, 6: 0} {
		if got := d.Depth(e); got != want {
			t.Errorf("Depth(%d): %d", e, got)
		}
	}
}

func walk(d Doc, e, most int) string {
	out := ""
	for n, depth := range d.Walk(e) {
		out += fmt.Sprint(n, ":", depth, " ")
		if most--; most == 0 {
			break
		}
	}
	return out
}

func TestP802Walk(t *testing.T) {
	d := parse(t, "<a><b/><c><b/><d><e/></d></c><b>t</b></a>")
	for _, c := range []struct {
		e, most int
		want    string
	}{{0, 0, "0:0 1:1 2:1 3:2 4:2 5:3 6:1 "}, {2, 0, "2:0 3:1 4:1 5:2 "}, {1, 0, "1:0 "}, {0, 3, "0:0 1:1 2:1 "}, {-1, 0, ""}, {7, 0, ""}} {
		if got := walk(d, c.e, c.most); got != c.want {
			t.Errorf("Walk(%d): %s", c.e, got)
		}
	}
	seq, calls := d.Walk(0), 0
	d.Elems[0].Kids[0] = 99
	for range 2 {
		calls = 0
		seq(func(n, _ int) bool {
			if n != calls {
				t.Error("a walk that was asked for ahead of a change:", n)
			}
			calls++
			return calls < 4
		})
		if calls != 4 {
			t.Error("calls behind a false:", calls)
		}
	}
}

func TestP803(t *testing.T) {
	if !(Doc{}).Valid() {
		t.Error("a Doc without elements")
	}
	spoil := map[string]func(e []Elem) []Elem{
		"root":      func(e []Elem) []Elem { e[0].Up = 0; return e },
		"up":        func(e []Elem) []Elem { e[3].Up = 1; return e },
		"ahead":     func(e []Elem) []Elem { e[1].Up = 2; return e },
		"itself":    func(e []Elem) []Elem { e[3].Up = 3; return e },
		"no up":     func(e []Elem) []Elem { e[3].Up = -1; return e },
		"far":       func(e []Elem) []Elem { e[3].Up = 99; return e },
		"order":     func(e []Elem) []Elem { e[0].Kids = []int{2, 1, 5}; return e },
		"one more":  func(e []Elem) []Elem { e[0].Kids = []int{1, 2, 5, 5}; return e },
		"other":     func(e []Elem) []Elem { e[0].Kids = []int{1, 2, 3}; return e },
		"one less":  func(e []Elem) []Elem { e[0].Kids = []int{1, 2}; return e },
		"none":      func(e []Elem) []Elem { e[1].Kids = []int{-7}; return e },
		"cut":       func(e []Elem) []Elem { return e[:5] },
		"from in":   func(e []Elem) []Elem { return e[1:] },
		"in closed": func(e []Elem) []Elem { e[5].Up, e[1].Kids, e[0].Kids = 1, []int{5}, []int{1, 2}; return e },
		"too deep": func(e []Elem) []Elem {
			d := parse(t, deep(api.MaxDeep))
			last := len(d.Elems)
			d.Elems[last-1].Kids = []int{last}
			return append(d.Elems, Elem{Name: "a", Up: last - 1})
		},
		"too many": func(e []Elem) []Elem {
			d := parse(t, "<a>"+strings.Repeat("<b/>", api.MaxElems-1)+"</a>")
			d.Elems[0].Kids = append(d.Elems[0].Kids, api.MaxElems)
			return append(d.Elems, Elem{Name: "a"})
		},
	}
	for name, f := range spoil {
		d := parse(t, "<a><b/><c><b/><d/></c><b>t</b></a>")
		if !d.Valid() {
			t.Fatal("what is read is not valid")
		}
		d.Elems = f(d.Elems)
		if d.Valid() || d.Depth(0) != 0 || d.Kids(0, "") != nil || walk(d, 0, 0) != "" {
			t.Errorf("%s: %v, %d, %v, %q", name, d.Valid(), d.Depth(0), d.Kids(0, ""), walk(d, 0, 0))
		}
	}
}

func TestAnyTexts(t *testing.T) {
	r := rand.New(rand.NewSource(1))
	parts := []string{"<a>", "<b>", "</a>", "</b>", "<a/>", " ", "x", "<b x='1'>"}
	good := 0
	for range 20000 {
		var s strings.Builder
		for range r.Intn(8) {
			s.WriteString(parts[r.Intn(len(parts))])
		}
		d, wrong := Parse(s.String())
		if !d.Valid() || (wrong.Code == 0) != (len(d.Elems) > 0) || wrong.At > s.Len() {
			t.Fatalf("%q: %v", s.String(), wrong)
		}
		if len(d.Elems) > 0 {
			good++
		}
		if again, _ := Parse(s.String()); !reflect.DeepEqual(d, again) {
			t.Fatalf("%q: told in another way", s.String())
		}
	}
	if good == 0 {
		t.Error("no text is one")
	}
}
