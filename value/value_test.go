package value

import (
	"fmt"
	"slices"
	"strings"
	"testing"

	"hornbeam/api"
	"hornbeam/rat"
)

func number(s string) api.Value { return api.Value{Kind: api.Number, Num: s} }

func numeric(name string) api.Field {
	return api.Field{Name: name, Kind: api.Continuous, Invalid: api.Refuse}
}

func categorical(values ...string) api.Field {
	return api.Field{Name: "c", Kind: api.Categorical, Values: values, Invalid: api.Refuse}
}

// both tells a value that is not valid: it has a number and a category.
func both(kind int) api.Value { return api.Value{Kind: kind, Num: "-13/5", Cat: "a"} }

// spoilt values are no values at all.
func spoilt() []api.Value {
	return []api.Value{{Kind: 3}, {Kind: -1}, {Num: "1"}, {Cat: "x"}, number(""), number("2/4"), number("1.5"), number("-0"), number("x"), number(strings.Repeat("9", 1201)), {Kind: api.Number, Num: "1", Cat: "x"}, {Kind: api.Category, Num: "1"}, Cat(strings.Repeat("x", 61))}
}

func TestP1201Values(t *testing.T) {
	half, _ := rat.Div(rat.Of(3), rat.Of(-2))
	if Of(half) != number("-3/2") || Of(rat.Rat{}) != number("0") || Cat("red") != (api.Value{Kind: api.Category, Cat: "red"}) {
		t.Error(Of(half), Cat("red"))
	}
	for want, v := range map[string]api.Value{"?": {}, "-3/2": Of(half), "0": number("0"), ":red": Cat("red"), ":": Cat(""), ":\xff": Cat("\xff"), strings.Repeat("9", 1200): number(strings.Repeat("9", 1200)), ":" + strings.Repeat("x", 60): Cat(strings.Repeat("x", 60))} {
		if !Valid(v) || Text(v) != want {
			t.Errorf("%v: %v, %q", v, Valid(v), Text(v))
		}
		r, is := Num(v)
		if is != (v.Kind == api.Number) || is && r.Text() != v.Num || !is && r.Text() != "0" {
			t.Errorf("Num(%v): %s, %v", v, r.Text(), is)
		}
	}
	for _, v := range spoilt() {
		r, is := Num(v)
		if Valid(v) || Text(v) != "!" || is || r.Text() != "0" {
			t.Errorf("%v: %v, %q, %v", v, Valid(v), Text(v), is)
		}
	}
	if !Same(Cat("a"), Cat("a")) || Same(Cat("1"), number("1")) || Same(Cat("a"), Cat("b")) || Same(number("1"), number("2")) || !Same(api.Value{}, api.Value{}) || Same(Cat(""), api.Value{}) || !Same(number("2/4"), number("2/4")) || Same(number("1"), api.Value{Kind: api.Number, Num: "1", Cat: "x"}) {
		t.Error("Same")
	}
}

func TestP1201Parse(t *testing.T) {
	long := strings.Repeat("9", 400)
	for s, want := range map[string]api.Value{"?": {}, ":": Cat(""), ":red": Cat("red"), "::": Cat(":"), ":?": Cat("?"), ":" + strings.Repeat("x", 60): Cat(strings.Repeat("x", 60)), "1.5": number("3/2"), "3/2": number("3/2"), "-3/2": number("-3/2"), "+1e2": number("100"), "-0": number("0"), "007": number("7"), long: number(long), long + "9/2": number(long + "9/2"), "1/" + long + "7": number("1/" + long + "7")} {
		got, code := Parse(s)
		if got != want || code != api.OK {
			t.Errorf("Parse(%.20q): %v, %d", s, got, code)
		}
	}
	for s, want := range map[string]api.Code{"": api.ErrForm, "??": api.ErrForm, " ?": api.ErrForm, "red": api.ErrForm, "!": api.ErrForm, ":" + strings.Repeat("x", 61): api.ErrForm, "2/4": api.ErrForm, "3/1": api.ErrForm, "1/0": api.ErrForm, "0/2": api.ErrForm, "1.5/2": api.ErrForm, "+3/2": api.ErrForm, "NaN": api.ErrForm, "1 ": api.ErrForm, strings.Repeat("9", 1201) + "/2": api.ErrForm, "1e401": api.ErrLimit, "." + long + "1": api.ErrLimit} {
		got, code := Parse(s)
		if got != (api.Value{}) || code != want {
			t.Errorf("Parse(%.20q): %v, %d, not %d", s, got, code, want)
		}
	}
}

// What Text tells of a value is read as that value, however many digits it has.
func TestP1201ParseOfText(t *testing.T) {
	values := []api.Value{{}, Cat(""), Cat("?"), Cat(strings.Repeat("7", 60)), number("0"), number("-1/2")}
	for _, n := range []int{1, 399, 400, 401, 402, 800, 1199, 1200} {
		long, round := strings.Repeat("7", n), "1"+strings.Repeat("0", n-1)
		for _, num := range []string{long, round, long + "/2", "1/" + long, long + "/1" + strings.Repeat("0", 1199), round + "/" + strings.Repeat("7", 1200)} {
			values = append(values, number(num), number("-"+num))
		}
	}
	for _, v := range values {
		if got, code := Parse(Text(v)); !Valid(v) || got != v || code != api.OK {
			t.Errorf("Parse(%.20q), %d bytes: %.20v, %d", Text(v), len(Text(v)), got, code)
		}
	}
}

// Other literals have no more digits than dec.Parse takes, and no number has more than MaxDigits.
func TestP1201ParseLimit(t *testing.T) {
	long, most := strings.Repeat("7", 401), strings.Repeat("7", api.MaxDigits)
	for _, s := range []string{"+" + long, "0" + long, "-0" + long, long + ".", long + ".0", long + ".5", "." + long, long + "e0", long + "E-1", "-" + long + "e0", "+" + most, "0" + most, most + "7", "-" + most + "7", strings.Repeat("0", 401), "-" + strings.Repeat("0", 401), "1" + strings.Repeat("0", 1200), strings.Repeat("7", 50000)} {
		if got, code := Parse(s); got != (api.Value{}) || code != api.ErrLimit {
			t.Errorf("Parse(%.20q), %d bytes: %.20v, %d", s, len(s), got, code)
		}
	}
	for _, s := range []string{long + "x", long + " ", " " + long, "--" + long, "+-" + long, long + "/", "/" + long, "+" + long + "/2", "0" + long + "/2", long + "/7", long + "/1", long + "/0", most + "7/2", "1/" + most + "7", "?" + long} {
		if got, code := Parse(s); got != (api.Value{}) || code != api.ErrForm {
			t.Errorf("Parse(%.20q), %d bytes: %.20v, %d", s, len(s), got, code)
		}
	}
}

func TestP1202ValidField(t *testing.T) {
	many := make([]string, 101)
	for i := range many {
		many[i] = fmt.Sprint(i)
	}
	f := func(change func(f *api.Field)) api.Field {
		f := categorical("a", "b")
		change(&f)
		return f
	}
	for name, field := range map[string]api.Field{
		"plain": numeric("x"), "long name": numeric(strings.Repeat("x", 60)), "declared": categorical("a", "", strings.Repeat("x", 60)), "undeclared": categorical(), "many": categorical(many[:100]...),
		"replaced": f(func(f *api.Field) { f.Replace = Cat("b") }), "as is": f(func(f *api.Field) { f.Invalid = api.AsIs }), "as missing": f(func(f *api.Field) { f.Invalid = api.AsMissing }),
		"replaced by any": f(func(f *api.Field) { f.Values, f.Replace = nil, Cat("z") }), "number": {Name: "x", Kind: api.Continuous, Invalid: 1, Replace: number("1/2")}, "spoilt name": numeric("\xff"),
	} {
		if !ValidField(field) {
			t.Error(name, "is not valid")
		}
	}
	for name, field := range map[string]api.Field{
		"zero": {}, "no name": numeric(""), "long name": numeric(strings.Repeat("x", 61)), "kind 0": f(func(f *api.Field) { f.Kind, f.Values = 0, nil }), "kind 3": f(func(f *api.Field) { f.Kind, f.Values = 3, nil }), "invalid 0": f(func(f *api.Field) { f.Invalid = 0 }), "invalid 4": f(func(f *api.Field) { f.Invalid = 4 }),
		"too many": categorical(many...), "twice": categorical("a", "b", "a"), "long value": categorical(strings.Repeat("x", 61)), "values of numbers": f(func(f *api.Field) { f.Kind = api.Continuous }),
		"spoilt replace": f(func(f *api.Field) { f.Replace = api.Value{Num: "x"} }), "undeclared replace": f(func(f *api.Field) { f.Replace = Cat("z") }), "replace of another kind": f(func(f *api.Field) { f.Replace = number("1") }), "category in number": {Name: "x", Kind: api.Continuous, Invalid: 1, Replace: Cat("a")}, "spoilt number": {Name: "x", Kind: api.Continuous, Invalid: 1, Replace: number("2/4")},
		"number with a category": {Name: "x", Kind: api.Continuous, Invalid: 1, Replace: both(api.Number)}, "category with a number": f(func(f *api.Field) { f.Replace = both(api.Category) }), "any category with a number": f(func(f *api.Field) { f.Values, f.Replace = nil, both(api.Category) }), "long replace": f(func(f *api.Field) { f.Values, f.Replace = nil, Cat(strings.Repeat("x", 61)) }),
	} {
		if ValidField(field) {
			t.Error(name, "is valid")
		}
	}
}

func TestP1202Fit(t *testing.T) {
	for i, c := range []struct {
		f    api.Field
		v    api.Value
		want bool
	}{
		{numeric("x"), number("1/2"), true}, {numeric("x"), Cat("a"), false}, {numeric("x"), api.Value{}, false},
		{categorical("a", "b"), Cat("a"), true}, {categorical("a", "b"), Cat("c"), false}, {categorical("a", "b"), Cat("A"), false}, {categorical("a"), api.Value{}, false}, {categorical("1"), number("1"), false}, {categorical(), Cat("z"), true}, {categorical(), number("1"), false}, {api.Field{Kind: 3}, number("1"), false}, {api.Field{}, api.Value{}, false},
		// Values that are not valid fit by their kinds, too.
		{numeric("y"), both(api.Number), true}, {numeric("y"), number("2/4"), true}, {numeric("y"), number(""), true}, {numeric("y"), both(api.Category), false}, {numeric("y"), both(api.Missing), false}, {numeric("y"), both(3), false},
		{categorical(), both(api.Category), true}, {categorical("a"), both(api.Category), true}, {categorical("b"), both(api.Category), false}, {categorical(), Cat(strings.Repeat("x", 61)), true}, {categorical("a"), both(api.Number), false}, {categorical("a"), both(api.Missing), false}, {categorical(), both(3), false}, {api.Field{Kind: 3}, both(api.Number), false},
	} {
		if Fit(c.f, c.v) != c.want {
			t.Errorf("number %d, %v: %v", i, c.v, !c.want)
		}
	}
}

func TestP1203(t *testing.T) {
	with := func(f api.Field, invalid int, replace api.Value) api.Field {
		f.Invalid, f.Replace = invalid, replace
		return f
	}
	x, c := numeric("x"), categorical("a", "b")
	none := api.Value{}
	l := func(v ...api.Value) []api.Value { return v }
	for i, k := range []struct {
		f    []api.Field
		row  []api.Value
		want []api.Value
		is   bool
		code api.Code
	}{
		{nil, nil, nil, true, 0},
		{[]api.Field{x, c}, l(number("1"), Cat("a")), l(number("1"), Cat("a")), true, 0},
		{[]api.Field{x, c}, l(none, none), l(none, none), true, 0},
		{[]api.Field{with(x, 1, number("7")), with(c, 1, Cat("b"))}, l(none, none), l(number("7"), Cat("b")), true, 0},
		{[]api.Field{with(x, 1, number("7"))}, l(number("5")), l(number("5")), true, 0},
		{[]api.Field{c}, l(Cat("z")), nil, false, 0}, {[]api.Field{c}, l(number("1")), nil, false, 0}, {[]api.Field{x}, l(Cat("a")), nil, false, 0},
		{[]api.Field{with(c, api.AsIs, none)}, l(Cat("z")), l(Cat("z")), true, 0}, {[]api.Field{with(c, api.AsIs, Cat("a"))}, l(Cat("z")), l(Cat("z")), true, 0},
		{[]api.Field{with(c, api.AsIs, none)}, l(number("1")), nil, false, 0}, {[]api.Field{with(x, api.AsIs, none)}, l(Cat("a")), nil, false, 0},
		{[]api.Field{with(c, api.AsMissing, none)}, l(Cat("z")), l(none), true, 0}, {[]api.Field{with(c, api.AsMissing, Cat("a"))}, l(Cat("z")), l(Cat("a")), true, 0}, {[]api.Field{with(c, api.AsMissing, Cat("a"))}, l(number("1")), l(Cat("a")), true, 0}, {[]api.Field{with(x, api.AsMissing, number("1"))}, l(Cat("z")), l(number("1")), true, 0},
		{[]api.Field{x, c, x}, l(number("1"), Cat("z"), number("2")), nil, false, 0},
		{[]api.Field{x}, nil, nil, false, api.ErrArity}, {nil, l(none), nil, false, api.ErrArity}, {[]api.Field{{}}, l(none, none), nil, false, api.ErrArity},
		{[]api.Field{{}}, l(none), nil, false, api.ErrArg}, {[]api.Field{x}, l(api.Value{Kind: 7}), nil, false, api.ErrArg}, {[]api.Field{x}, l(number("2/4")), nil, false, api.ErrArg}, {[]api.Field{x}, l(both(api.Number)), nil, false, api.ErrArg}, {[]api.Field{c}, l(both(api.Category)), nil, false, api.ErrArg}, {[]api.Field{categorical()}, l(Cat(strings.Repeat("x", 61))), nil, false, api.ErrArg}, {[]api.Field{with(x, api.AsMissing, none)}, l(both(api.Number)), nil, false, api.ErrArg}, {[]api.Field{with(c, api.AsIs, none)}, l(both(api.Category)), nil, false, api.ErrArg}, {[]api.Field{with(x, 1, both(api.Number))}, l(none), nil, false, api.ErrArg}, {[]api.Field{c, x}, l(Cat("z"), number("x")), nil, false, api.ErrArg}, {[]api.Field{c, {Name: "y"}}, l(Cat("z"), none), nil, false, api.ErrArg},
	} {
		before := slices.Clone(k.row)
		got, is, code := Prepare(k.f, k.row)
		if !slices.Equal(got, k.want) || is != k.is || code != k.code || !slices.Equal(k.row, before) {
			t.Errorf("number %d: %v, %v, %d", i, got, is, code)
		}
		if len(got) > 0 && &got[0] == &k.row[0] {
			t.Errorf("number %d: the row that was handed in is told", i)
		}
	}
}
