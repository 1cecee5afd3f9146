package xout

import (
	"math/rand"
	"strings"
	"testing"

	"hornbeam/api"
	"hornbeam/xtok"
	"hornbeam/xtree"
)

func elem(name string, up int, text string, kids ...int) xtree.Elem {
	return xtree.Elem{Name: name, Up: up, Text: text, Kids: kids, At: 7}
}

func with(e xtree.Elem, pairs ...string) xtree.Elem {
	for i := 0; i+1 < len(pairs); i += 2 {
		e.Attrs = append(e.Attrs, xtok.Attr{Name: pairs[i], Value: pairs[i+1]})
	}
	return e
}

func TestP901Print(t *testing.T) {
	for want, l := range map[string][]xtree.Elem{
		`<a/>`:                                  {elem("a", -1, "")},
		`<a>x</a>`:                              {elem("a", -1, "x")},
		`<é b="" c="1"/>`:                       {with(elem("é", -1, ""), "b", "", "c", "1")},
		`<a><b/></a>`:                           {elem("a", -1, "", 1), elem("b", 0, "")},
		`<a>t<b>u</b></a>`:                      {elem("a", -1, "t", 1), elem("b", 0, "u")},
		`<a><b><c/><d>x</d></b><e><f/></e></a>`: {elem("a", -1, "", 1, 4), elem("b", 0, "", 2, 3), elem("c", 1, ""), elem("d", 1, "x"), elem("e", 0, "", 5), elem("f", 4, "")},
		`<a><b><c><d/></c></b></a>`:             {elem("a", -1, "", 1), elem("b", 0, "", 2), elem("c", 1, "", 3), elem("d", 2, "")},
		"<a b=\"&quot;&lt;&amp;&gt;&#9;&#10;&#13;'\">\"&lt;&amp;&gt;\t\n&#13;'</a>": {with(elem("a", -1, "\"<&>\t\n\r'"), "b", "\"<&>\t\n\r'")},
	} {
		d := xtree.Doc{Elems: l}
		got, code := Print(d)
		if got != want || code != api.OK || !May(d) {
			t.Errorf("%q, %d, not %q", got, code, want)
		}
	}
}

func TestP901MayNot(t *testing.T) {
	for name, l := range map[string][]xtree.Elem{
		"no root": nil, "not valid": {elem("a", 0, "")}, "two roots": {elem("a", -1, ""), elem("b", -1, "")}, "a kid of none": {elem("a", -1, "", 1)},
		"no name": {elem("", -1, "")}, "a bad name": {elem("1a", -1, "")}, "a bad part": {elem("a b", -1, "")}, "spoilt name": {elem("a\xff", -1, "")}, "name of no Char": {elem("a\uffff", -1, "")}, "injected": {elem("a/><b", -1, "")},
		"no attribute name": {with(elem("a", -1, ""), "", "x")}, "bad attribute name": {with(elem("a", -1, ""), "b c", "x")}, "twice": {with(elem("a", -1, ""), "b", "x", "c", "", "b", "y")},
		"spoilt value": {with(elem("a", -1, ""), "b", "x\xc3")}, "value of no Char": {with(elem("a", -1, ""), "b", "\x00")}, "spoilt text": {elem("a", -1, "\xff")}, "text of no Char": {elem("a", -1, "x\ufffe")}, "within": {elem("a", -1, "", 1), elem("b", 0, "\x1f")},
	} {
		d := xtree.Doc{Elems: l}
		if got, code := Print(d); got != "" || code != api.ErrArg || May(d) {
			t.Errorf("%s: %q, %d, %v", name, got, code, May(d))
		}
	}
	if !May(xtree.Doc{Elems: []xtree.Elem{elem("a", -1, "", 1), with(elem("b", 0, "\U0010ffff"), "c", "x")}}) {
		t.Error("may not be")
	}
}

func TestP901Limit(t *testing.T) {
	room := api.MaxText - len("<a></a>")
	for text, want := range map[string]api.Code{strings.Repeat("x", room): 0, strings.Repeat("x", room+1): api.ErrLimit, strings.Repeat("&", room/5+1): api.ErrLimit} {
		got, code := Print(xtree.Doc{Elems: []xtree.Elem{elem("a", -1, text)}})
		if code != want || code == 0 && len(got) != api.MaxText || code != 0 && got != "" {
			t.Error(len(text), len(got), code)
		}
	}
	long := strings.Repeat("a", api.MaxText)
	for name, l := range map[string][]xtree.Elem{"an end": {elem(long[:api.MaxText/2], -1, "x")}, "a kid": {elem("a", -1, "", 1), elem(long, 0, "")}} {
		if got, code := Print(xtree.Doc{Elems: l}); got != "" || code != api.ErrLimit {
			t.Error(name, len(got), code)
		}
	}
}

func TestP902Writer(t *testing.T) {
	type act func(w *Writer) *Writer
	for name, c := range map[string]struct {
		do   act
		want string
		code api.Code
	}{
		"plain": {func(w *Writer) *Writer { return w.Open("a", "b", "1").Text("x").Close() }, `<a b="1">x</a>`, 0},
		"within": {func(w *Writer) *Writer {
			return w.Open("a").Text("s").Open("b").Text("t").Close().Text("").Text("u").Open("c").Close().Close()
		}, `<a>su<b>t</b><c/></a>`, 0},
		"none":         {func(w *Writer) *Writer { return w }, "", api.ErrArg},
		"open":         {func(w *Writer) *Writer { return w.Open("a") }, "", api.ErrArg},
		"two roots":    {func(w *Writer) *Writer { return w.Open("a").Close().Open("b").Close() }, "", api.ErrArg},
		"odd":          {func(w *Writer) *Writer { return w.Open("a", "b").Open("a").Close() }, "", api.ErrArg},
		"text outside": {func(w *Writer) *Writer { return w.Text("x").Open("a").Close() }, "", api.ErrArg},
		"text behind":  {func(w *Writer) *Writer { return w.Open("a").Close().Text("x") }, "", api.ErrArg},
		"no text out":  {func(w *Writer) *Writer { return w.Text("").Open("a").Close() }, "", api.ErrArg},
		"close first":  {func(w *Writer) *Writer { return w.Close().Open("a").Close() }, "", api.ErrArg},
		"close twice":  {func(w *Writer) *Writer { return w.Open("a").Close().Close() }, "", api.ErrArg},
		"bad name":     {func(w *Writer) *Writer { return w.Open("a b").Close() }, "", api.ErrArg},
		"twice":        {func(w *Writer) *Writer { return w.Open("a", "b", "1", "b", "2").Close() }, "", api.ErrArg},
		"bad text":     {func(w *Writer) *Writer { return w.Open("a").Text("\xff").Close() }, "", api.ErrArg},
		"parts of one": {func(w *Writer) *Writer { return w.Open("a").Text("\xc3").Text("\xa9").Close() }, "<a>é</a>", 0},
		"long":         {func(w *Writer) *Writer { return w.Open("a").Text(strings.Repeat("x", api.MaxText)).Close() }, "", api.ErrLimit},
		"an open root": {func(w *Writer) *Writer { return w.Open("a").Open("b").Close() }, "", api.ErrArg},
	} {
		var w Writer
		if c.do(&w) != &w {
			t.Error(name, "answers another Writer")
		}
		for range 2 {
			if got, code := w.Done(); got != c.want || code != c.code {
				t.Errorf("%s: %q, %d", name, got, code)
			}
		}
	}
	var none *Writer
	if none.Open("a") != nil || none.Text("x") != nil || none.Close() != nil {
		t.Error("a nil Writer answers one")
	}
	if got, code := none.Done(); got != "" || code != api.ErrArg {
		t.Error("a nil Writer:", got, code)
	}
}

func TestP902GoesOn(t *testing.T) {
	var w Writer
	if _, code := w.Open("a").Done(); code != api.ErrArg {
		t.Error(code)
	}
	if got, code := w.Open("b").Close().Close().Done(); got != "<a><b/></a>" || code != 0 {
		t.Error(got, code)
	}
	pairs := []string{"x", "1"}
	var v Writer
	v.Open("a", pairs...).Close()
	pairs[1] = "2"
	if got, _ := v.Done(); got != `<a x="1"/>` {
		t.Error("what was handed in is kept:", got)
	}
}

func TestP903(t *testing.T) {
	r := rand.New(rand.NewSource(1))
	chars := []rune{'a', '<', '>', '&', ']', '"', '\'', '\t', '\n', '\r', ' ', 'é', '\U0001f600'}
	text := func() string {
		var s strings.Builder
		for range r.Intn(5) {
			s.WriteRune(chars[r.Intn(len(chars))])
		}
		return s.String()
	}
	for range 2000 {
		var w Writer
		w.Open("r", "x", text(), "y", text())
		depth := 1
		for range r.Intn(12) {
			switch r.Intn(3) {
			case 0:
				w.Open("k", "z", text())
				depth++
			case 1:
				w.Text(text())
			default:
				if depth > 1 {
					w.Close()
					depth--
				}
			}
		}
		for range depth {
			w.Close()
		}
		s, code := w.Done()
		d, wrong := xtree.Parse(s)
		if code != 0 || wrong.Code != 0 {
			t.Fatal(s, code, wrong)
		}
		if again, _ := Print(d); again != s {
			t.Fatalf("%q, not %q", again, s)
		}
		for n, e := range d.Elems {
			if e.Text != string(w.texts[n]) || e.Attrs[0].Value != w.elems[n].Attrs[0].Value || e.Up != w.elems[n].Up {
				t.Fatal(s, n)
			}
		}
	}
}
