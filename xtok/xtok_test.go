package xtok

import (
	"fmt"
	"math/rand"
	"strings"
	"testing"

	"hornbeam/api"
	"hornbeam/utf"
)

// told writes tokens short: <name@at attr@at=value>, </name@at>, text@at.
func told(l []Token) string {
	var out []string
	for _, t := range l {
		switch t.Kind {
		case Open:
			s := fmt.Sprintf("<%s@%d", t.Name, t.At)
			for _, a := range t.Attrs {
				s += fmt.Sprintf(" %s@%d=%q", a.Name, a.At, a.Value)
			}
			if t.Empty {
				s += "/"
			}
			out = append(out, s+">"+t.Text)
		case Close:
			out = append(out, fmt.Sprintf("</%s@%d>%s%v%v", t.Name, t.At, t.Text, strings.Repeat("!", len(t.Attrs)), map[bool]string{true: "!"}[t.Empty]))
		case Text:
			out = append(out, fmt.Sprintf("%q@%d%s", t.Text, t.At, t.Name))
		default:
			out = append(out, "?")
		}
	}
	return strings.Join(out, " ")
}

func TestP701Tokens(t *testing.T) {
	for s, want := range map[string]string{
		"":                                          "",
		"<a b='1&amp;2'/>":                          `<a@0 b@3="1&2"/>`,
		"<a>x</a>":                                  `<a@0> "x"@3 </a@4>`,
		"<a  b = \"1\"\n c\t=\r\n'\"2\"' >":         `<a@0 b@4="1" c@13="\"2\"">`,
		"<a/></a ></a\n>":                           `<a@0/> </a@4> </a@9>`,
		"a&lt;b&gt;&amp;&apos;&quot;c":              `"a<b>&'\"c"@0`,
		"&#65;&#x41;&#x4a;&#x4A;&#0000065;":         `"AAJJA"@0`,
		"&#x10FFFF;&#1114111;&#9;&#10;&#13;":        "\"\\U0010ffff\\U0010ffff\\t\\n\\r\"@0",
		"a\r\nb\rc\nd\r\r\ne\n\r":                   `"a\nb\nc\nd\n\ne\n\n"@0`,
		"&#13;\n":                                   `"\r\n"@0`,
		"]] ]>]&gt;]]&gt;>":                         `"]] ]>]>]]>>"@0`,
		"<![CDATA[<a>&lt;]] \r\n\r]]>":              `"<a>&lt;]] \n\n"@0`,
		"<![CDATA[]]>":                              "",
		"<![CDATA[x]]]]>":                           `"x]]"@0`,
		"a<![CDATA[b]]>c<![CDATA[d]]><![CDATA[e]]>": `"a"@0 "b"@1 "c"@14 "d"@15 "e"@28`,
		"a<!-- x - y -->b<!---->":                   `"a"@0 "b"@15`,
		"a<?p q?>b<?p?><?p+?>":                      `"a"@0 "b"@8`,
		"<?xml version='1.0'?><a/>":                 `<a@21/>`,
		"<?XmL?>":                                   "",
		"<?xmlx?> <?xml-y?>":                        `" "@8`,
		" <?xmlx?>":                                 `" "@0`,
		"<a b='x\r\ny\rz\n\tw'/>":                   `<a@0 b@3="x y z  w"/>`,
		"<a b='&#13;&#10;&#9;&#x20;'/>":             `<a@0 b@3="\r\n\t "/>`,
		"<a b=']]>' c='>' d=\"'\"/>":                `<a@0 b@3="]]>" c@11=">" d@17="'"/>`,
		"<é:_.-·9 ü=''/>":                           `<é:_.-·9@0 ü@11=""/>`,
		"x\ufeff":                                   "\"x\\ufeff\"@0",
	} {
		got, wrong := Cut(s)
		if told(got) != want || wrong != (api.Diag{}) {
			t.Errorf("Cut(%q): %s, %v, not %s", s, told(got), wrong, want)
		}
	}
}

func TestP701Wrong(t *testing.T) {
	long := strings.Repeat("x", api.MaxText)
	if got, wrong := Cut(long); told(got) != fmt.Sprintf("%q@0", long) || wrong.Code != 0 {
		t.Error("as long as may be:", wrong)
	}
	if got, wrong := Cut(long + "\xff"); len(got) != 0 || wrong.Code != api.ErrLimit || wrong.At != 0 {
		t.Error("too long:", wrong)
	}
	for s, want := range map[string]int{
		"ab\xffc": 2, "<<\x01\xff": 3, "<<\x01": 2, "a\x00": 1, "é\uffff": 2, "<a b='\ufffe'": 6,
		"a&b": 1, "a&": 1, "a&;": 1, "a&lt": 1, "a&LT;": 1, "&nbsp;": 0, "a& lt;": 1, "&lt ;": 0, "&#;": 0, "&#x;": 0, "&#X41;": 0, "&#a;": 0, "&#xg;": 0, "&#-5;": 0, "&#+5;": 0, "&#6_5;": 0, "&#x0x4;": 0, "&# 65;": 0,
		"&#00000065;": 0, "&#x0000041;": 0, "&#0;": 0, "x&#8;": 1, "&#xd800;": 0, "&#xFFFE;": 0, "&#x110000;": 0, "&#9999999;": 0, "a&amp;b&c": 7,
		"a]]>": 1, "<a>x]]>": 4, "a]]]>": 2,
		"<![CDATA[x": 0, "a<![CDATA[x]]": 1, "<![cdata[x]]>": 0, "a<!DOCTYPE a>": 1, "<!x>": 0, "<!": 0, "<!-": 0, "<!->": 0,
		"a<!--": 1, "a<!-->": 1, "a<!--->": 1, "a<!-- x": 1, "a<!-- x -": 1, "<!-- a -- b -->": 7, "<!-- a --->": 7, "<!-- a --": 7, "<!------>": 4,
		"a<?": 1, "<??>": 0, "<? p?>": 0, "<?p": 0, "<?p?": 0, "<?1?>": 0, " <?xml?>": 1, "<a/><?XML x?>": 4, "<?p>": 0,
		"</": 0, "</>": 0, "</ a>": 0, "</a": 0, "</a b>": 0, "</a/>": 0, "</1>": 0, "<a></a": 3,
		"<": 0, "a<": 1, "<>": 0, "< a>": 0, "<a": 0, "<a ": 0, "<a/": 0, "<a/ >": 0, "<a / >": 0, "<1>": 0, "<-a>": 0, "<a<b>": 0, "<a b>": 0, "<a b=>": 0, "<a b=c>": 0, "<a b='c>": 0, "<a b='c\">": 0, "<a b='<'>": 0, "x<a b=\"1\"c=\"2\">": 1, "<a b='1'c='2'>": 0, "<a ='1'>": 0, "<a b='1' ='2'>": 0, "<a\u00a0b='1'>": 0, "<a×>": 0, "<a b='1' '>": 0,
		"<a b='&x;'>": 6, "<a b='&lt'>": 6, "<a b='&": 6, "<a b='<&x;'>": 0, "<a b='&x;<'>": 6,
		"<a b='1' b='2'>": 9, "<a b='1' c='' b='2' b='3'>": 14, "<a b='1' b>": 9, "x<a c='' c='&x;'": 9,
		"<a><b c='&#1;'></b>&": 9,
	} {
		got, wrong := Cut(s)
		if len(got) != 0 || wrong.Code != api.ErrXml || wrong.At != want {
			t.Errorf("Cut(%q): %s, %v, not at %d", s, told(got), wrong, want)
		}
	}
}

func TestP701New(t *testing.T) {
	s := "<a b='1' c='2'/><a b='1'/>"
	first, _ := Cut(s)
	before := told(first)
	second, _ := Cut(s)
	second[0].Attrs[0].Value = "x"
	second[1].Name = "y"
	if told(first) != before {
		t.Error(told(first))
	}
}

func TestP702Each(t *testing.T) {
	seq := Each("<a b='1'>x</a>")
	for range 2 {
		var got []Token
		for token, wrong := range seq {
			if wrong != (api.Diag{}) {
				t.Error(wrong)
			}
			got = append(got, token)
		}
		if told(got) != `<a@0 b@3="1"> "x"@9 </a@10>` {
			t.Error(told(got))
		}
		got[0].Attrs[0].Value = "spoilt"
	}
	calls := 0
	seq(func(Token, api.Diag) bool { calls++; return calls < 2 })
	if calls != 2 {
		t.Error("calls behind a false:", calls)
	}
	for range Each("") {
		t.Error("of nothing something")
	}
	for _, s := range []string{"&", "<a>&bad;", "a<b/><", "\xff", strings.Repeat("x", api.MaxText+1)} {
		_, want := Cut(s)
		calls := 0
		for token, wrong := range Each(s) {
			if calls++; told([]Token{token}) != "?" || wrong != want || wrong.Code == 0 {
				t.Errorf("%.20q: %v, %v", s, token, wrong)
			}
		}
		Each(s)(func(Token, api.Diag) bool { calls++; return false })
		if calls != 2 {
			t.Errorf("%.20q: told %d times", s, calls)
		}
	}
}

func TestP702Escape(t *testing.T) {
	in := "a<b>&\"'\t\n\r]]>é"
	if got, want := Escape(in, false), "a&lt;b&gt;&amp;\"'\t\n&#13;]]&gt;é"; got != want {
		t.Errorf("%q", got)
	}
	if got, want := Escape(in, true), "a&lt;b&gt;&amp;&quot;'&#9;&#10;&#13;]]&gt;é"; got != want {
		t.Errorf("%q", got)
	}
	if Escape("", true) != "" {
		t.Error("of nothing something")
	}
}

func TestP703(t *testing.T) {
	r := rand.New(rand.NewSource(1))
	chars := []rune{'a', '<', '>', '&', ';', ']', ']', '"', '\'', '\t', '\n', '\r', '\r', ' ', 'é', '#', '\U0001f600'}
	for range 5000 {
		var s strings.Builder
		for range 1 + r.Intn(12) {
			s.WriteRune(chars[r.Intn(len(chars))])
		}
		got, wrong := Cut("<a>" + Escape(s.String(), false) + "</a>")
		if wrong.Code != 0 || len(got) != 3 || got[1].Text != s.String() {
			t.Fatalf("%q: %s, %v", s.String(), told(got), wrong)
		}
		got, wrong = Cut("<a b=\"" + Escape(s.String(), true) + "\"/>")
		if wrong.Code != 0 || len(got) != 1 || got[0].Attrs[0].Value != s.String() {
			t.Fatalf("%q: %s, %v", s.String(), told(got), wrong)
		}
	}
}

func TestAnyBytes(t *testing.T) {
	r := rand.New(rand.NewSource(2))
	parts := []string{"<", ">", "/>", "</", "a", " b='", "'", "\"", "=", "&", "&amp;", "&#x", "4;", "<!--", "-->", "--", "<![CDATA[", "]]>", "<?", "?>", "xml", " ", "\r\n", "é", "\xc3"}
	for range 30000 {
		var s strings.Builder
		for range r.Intn(10) {
			s.WriteString(parts[r.Intn(len(parts))])
		}
		got, wrong := Cut(s.String())
		if wrong.At < 0 || wrong.At > s.Len() || wrong.Code != 0 && len(got) > 0 {
			t.Fatalf("%q: %v", s.String(), wrong)
		}
		if at, ok := utf.Check(s.String()); !ok && (wrong.Code != api.ErrXml || wrong.At != at) {
			t.Fatalf("%q: %v", s.String(), wrong)
		}
	}
}
