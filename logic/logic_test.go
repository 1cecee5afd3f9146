package logic

import (
	"fmt"
	"math/rand"
	"reflect"
	"strings"
	"testing"

	"hornbeam/api"
	"hornbeam/rat"
	"hornbeam/value"
)

func number(s string) api.Value { return api.Value{Kind: api.Number, Num: s} }

func ask(op, field int, v ...api.Value) api.Pred { return api.Pred{Op: op, Field: field, Values: v} }

func join(op int, kids ...api.Pred) api.Pred { return api.Pred{Op: op, Kids: kids} }

// yes, no and unknown are predicates of a truth that is none of True and False, for rows whose field 0 is 5 and whose field 2 is missing.
func yes() api.Pred     { return ask(api.Less, 0, number("7")) }
func no() api.Pred      { return ask(api.Great, 0, number("7")) }
func unknown() api.Pred { return ask(api.Less, 2, number("7")) }

var (
	whole = api.Pred{Op: api.True}
	nil0  = api.Pred{Op: api.False}
)

func row() []api.Value { return []api.Value{number("5"), value.Cat("red"), {}} }

func fields() []api.Field {
	return []api.Field{{Name: "x", Kind: api.Continuous, Invalid: 1}, {Name: "c", Kind: api.Categorical, Values: []string{"red"}, Invalid: 1}, {Name: "y", Kind: api.Continuous, Invalid: 1}}
}

// nested wraps a predicate so that it is depth deep.
func nested(depth int) api.Pred {
	p := yes()
	for range depth - 1 {
		p = join(api.And, no(), p)
	}
	return p
}

func TestP1301(t *testing.T) {
	const n, y, u = api.No, api.Yes, api.Unknown
	l := func(l ...int) []int { return l }
	for _, c := range []struct {
		l                   []int
		and, or, xor, first int
	}{
		{nil, y, n, n, u}, {l(y), y, y, y, y}, {l(n), n, n, n, n}, {l(u), u, u, u, u}, {l(7), u, u, u, u}, {l(-1), u, u, u, u},
		{l(y, y), y, y, n, y}, {l(y, n), n, y, y, y}, {l(n, n), n, n, n, n}, {l(u, y), u, y, u, y}, {l(y, u), u, y, u, y}, {l(u, n), n, u, u, n}, {l(n, u), n, u, u, n}, {l(9, n), n, u, u, n}, {l(9, u, y), u, y, u, y},
		{l(y, y, y), y, y, y, y}, {l(y, n, u), n, y, u, y}, {l(u, n, y), n, y, u, n}, {l(u, u), u, u, u, u}, {l(y, y, n, y, y), n, y, n, y},
	} {
		if And(c.l...) != c.and || Or(c.l...) != c.or || Xor(c.l...) != c.xor || First(c.l...) != c.first {
			t.Errorf("%v: %d %d %d %d", c.l, And(c.l...), Or(c.l...), Xor(c.l...), First(c.l...))
		}
	}
	for a, want := range map[int]int{n: y, y: n, u: u, 3: u, -1: u} {
		if Not(a) != want {
			t.Error("Not", a, Not(a))
		}
	}
}

func TestP1302Comparisons(t *testing.T) {
	signs := func(v, w api.Value) string {
		out := ""
		for op := api.Less; op <= api.Great; op++ {
			out += fmt.Sprint(Eval(ask(op, 0, w), []api.Value{v}))
		}
		return out
	}
	red, blue, none := value.Cat("red"), value.Cat("blue"), api.Value{}
	for _, c := range []struct {
		v, w api.Value
		want string // of Less, LessEq, Equal, NotEqual, GreatEq, Great
	}{
		{number("1"), number("2"), "110100"}, {number("2"), number("2"), "011010"}, {number("3"), number("2"), "000111"}, {number("-1/2"), number("1/3"), "110100"}, {number("1/2"), number("1/3"), "000111"}, {number("10"), number("9"), "000111"},
		{red, red, "001000"}, {red, blue, "000100"}, {value.Cat("1"), number("1"), "000100"}, {number("1"), value.Cat("1"), "000100"},
		{none, number("1"), "222222"}, {none, none, "222222"}, {number("1"), none, "000100"}, {red, none, "000100"},
		{number("2/4"), number("1"), "222222"}, {number("1"), number("2/4"), "000100"}, {value.Cat(strings.Repeat("x", 61)), red, "222222"}, {api.Value{Kind: 5}, red, "222222"}, {red, api.Value{Kind: 5}, "000100"}, {number(""), number("1"), "222222"},
	} {
		if got := signs(c.v, c.w); got != c.want {
			t.Errorf("%v and %v: %s, not %s", c.v, c.w, got, c.want)
		}
	}
}

func TestP1302Others(t *testing.T) {
	for i, c := range []struct {
		p    api.Pred
		want int
	}{
		{whole, api.Yes}, {nil0, api.No}, {api.Pred{Op: api.True, Kids: []api.Pred{nil0}}, api.Yes},
		{ask(api.Less, 3, number("1")), api.Unknown}, {ask(api.Less, -1, number("1")), api.Unknown}, {ask(api.Less, 0), api.Unknown}, {ask(api.NotEqual, 0), api.Unknown}, {ask(api.Equal, 0, number("5"), number("6")), api.Yes}, {ask(api.Equal, 0, number("6"), number("5")), api.No},
		{ask(api.IsMissing, 0), api.No}, {ask(api.IsMissing, 2), api.Yes}, {ask(api.IsMissing, 3), api.Yes}, {ask(api.IsMissing, -1), api.Yes}, {ask(api.IsThere, 0), api.Yes}, {ask(api.IsThere, 2), api.No}, {ask(api.IsThere, 3), api.No},
		{ask(api.In, 0, number("4"), number("5")), api.Yes}, {ask(api.In, 0, number("4")), api.No}, {ask(api.In, 0), api.No}, {ask(api.In, 0, value.Cat("5")), api.No}, {ask(api.In, 2, number("5")), api.Unknown}, {ask(api.In, 2, api.Value{}), api.Unknown}, {ask(api.In, 9, number("5")), api.Unknown}, {ask(api.In, 1, value.Cat("red")), api.Yes},
		{ask(api.NotIn, 0, number("4"), number("5")), api.No}, {ask(api.NotIn, 0, number("4")), api.Yes}, {ask(api.NotIn, 0), api.Yes}, {ask(api.NotIn, 2, number("5")), api.Unknown}, {ask(api.NotIn, 9), api.Unknown},
		{join(api.And, yes(), unknown()), api.Unknown}, {join(api.And, unknown(), no()), api.No}, {join(api.And), api.Yes}, {join(api.Or, no(), unknown()), api.Unknown}, {join(api.Or, unknown(), yes()), api.Yes}, {join(api.Or), api.No},
		{join(api.Xor, yes(), yes(), yes()), api.Yes}, {join(api.Xor, yes(), unknown()), api.Unknown}, {join(api.Surrogate, unknown(), no(), yes()), api.No}, {join(api.Surrogate, unknown()), api.Unknown}, {join(api.Surrogate), api.Unknown},
		{api.Pred{}, api.Unknown}, {join(17, yes(), yes()), api.Unknown}, {join(-1), api.Unknown},
		{join(api.And, join(api.Or, no(), yes()), join(api.Surrogate, unknown(), ask(api.IsThere, 1))), api.Yes},
	} {
		if got := Eval(c.p, row()); got != c.want {
			t.Errorf("number %d, %s: %d", i, Text(c.p), got)
		}
	}
	spoilt := []api.Value{{Kind: api.Number, Num: "x"}, {Kind: 9}}
	if Eval(ask(api.IsMissing, 0), spoilt) != api.Yes || Eval(ask(api.IsThere, 1), spoilt) != api.No || Eval(ask(api.In, 0, spoilt[0]), spoilt) != api.Unknown {
		t.Error("values that are not valid do not count as missing")
	}
}

func TestP1303(t *testing.T) {
	red := value.Cat("red")
	many := func(n int) []api.Value {
		var l []api.Value
		for i := range n {
			l = append(l, value.Of(rat.Of(i)))
		}
		return l
	}
	kids := func(n int) []api.Pred {
		var l []api.Pred
		for range n {
			l = append(l, yes())
		}
		return l
	}
	for i, p := range []api.Pred{
		whole, nil0, yes(), ask(api.LessEq, 0, number("1/2")), ask(api.Equal, 0, number("1")), ask(api.NotEqual, 2, number("1")), ask(api.GreatEq, 0, number("1")), ask(api.Great, 0, number("1")), ask(api.Equal, 1, red), ask(api.NotEqual, 1, value.Cat("undeclared")),
		ask(api.IsMissing, 1), ask(api.IsThere, 0), ask(api.In, 0, number("1"), number("1")), ask(api.NotIn, 1, red, red), ask(api.In, 0, many(100)...),
		join(api.And, yes(), whole), join(api.Or, kids(50)...), join(api.Xor, yes(), no()), join(api.Surrogate, yes(), nil0), nested(api.MaxDepth),
	} {
		if !Valid(p, fields()) {
			t.Errorf("number %d, %.60s: not valid", i, Text(p))
		}
	}
	for i, p := range []api.Pred{
		{}, {Op: 17}, {Op: -1}, {Op: api.True, Field: 1}, ask(api.True, 0, red), join(api.False, whole),
		ask(api.Less, 3, number("1")), ask(api.Less, -1, number("1")), ask(api.Less, 0), ask(api.Less, 0, number("1"), number("2")), ask(api.Less, 0, red), ask(api.Less, 0, api.Value{}), ask(api.Less, 0, number("2/4")), ask(api.Less, 1, red), ask(api.GreatEq, 1, red), ask(api.Equal, 1, number("1")), ask(api.Equal, 1), ask(api.Equal, 1, value.Cat(strings.Repeat("x", 61))),
		{Op: api.Less, Values: many(1), Kids: kids(1)}, {Op: api.In, Values: many(1), Kids: kids(1)}, {Op: api.IsThere, Kids: kids(1)},
		ask(api.In, 0), ask(api.In, 0, many(101)...), ask(api.In, 0, red), ask(api.In, 0, number("1"), red), ask(api.NotIn, 1, number("1")), ask(api.In, 5, number("1")), ask(api.NotIn, 0, number("1"), api.Value{}),
		ask(api.IsMissing, 0, number("1")), ask(api.IsThere, 3), ask(api.IsMissing, -1),
		join(api.And), join(api.And, yes()), join(api.Or, kids(51)...), {Op: api.And, Field: 1, Kids: kids(2)}, {Op: api.Xor, Values: many(1), Kids: kids(2)}, join(api.And, yes(), ask(api.Less, 9, number("1"))), join(api.Surrogate, unknown(), join(api.Or, yes())),
		nested(api.MaxDepth + 1), nested(5000),
	} {
		if Valid(p, fields()) {
			t.Errorf("number %d, %.60s: valid", i, Text(p))
		}
	}
	if Valid(yes(), nil) || !Valid(whole, nil) || Valid(ask(api.IsThere, 0, number("1")), []api.Field{{Kind: 7}}) || Valid(ask(api.Equal, 0, number("1")), []api.Field{{Kind: 7}}) {
		t.Error("of other fields")
	}
}

func told(p api.Pred, most int) string {
	out := ""
	for q, depth := range Walk(p) {
		out += fmt.Sprint(depth, Text(q), " ")
		if most--; most == 0 {
			break
		}
	}
	return out
}

func TestP1304(t *testing.T) {
	p := join(api.Or, join(api.And, ask(api.In, 1, value.Cat("a"), value.Cat(""), api.Value{}), whole), ask(api.IsMissing, 2), nil0, ask(api.Less, 0, number("-3/2")))
	if got, want := Text(p), "14(13(11(1,:a,:,?),T),9(2),F,3(0,-3/2))"; got != want {
		t.Errorf("%s, not %s", got, want)
	}
	if Depth(p) != 3 || Depth(whole) != 1 || Depth(join(api.And)) != 1 || Depth(nested(40)) != 40 || Depth(api.Pred{Kids: []api.Pred{whole}}) != 2 {
		t.Error("Depth:", Depth(p), Depth(nested(40)))
	}
	if got := Text(join(16)) + Text(api.Pred{}) + Text(join(99, whole, nil0)) + Text(ask(api.Equal, -2, number("x"))); got != "16()0()99(T,F)5(-2,!)" {
		t.Error(got)
	}
	want := "1" + Text(p) + " 213(11(1,:a,:,?),T) 311(1,:a,:,?) 3T 29(2) 2F 23(0,-3/2) "
	if got := told(p, 0); got != want {
		t.Errorf("%s, not %s", got, want)
	}
	if got := told(p, 3); got != strings.Join(strings.SplitAfter(want, " ")[:3], "") {
		t.Error(got)
	}
	seq := Walk(p)
	p.Kids[0].Kids[0].Values[0] = value.Cat("spoilt")
	p.Kids[1] = whole
	calls := 0
	for q := range seq {
		calls++
		for i := range q.Kids {
			q.Kids[i] = nil0 // what is told is not what the walk goes on with
		}
	}
	got := ""
	seq(func(q api.Pred, depth int) bool {
		got += fmt.Sprint(depth, Text(q), " ")
		calls++
		return calls < 10
	})
	if calls != 10 || got != strings.Join(strings.SplitAfter(want, " ")[:3], "") {
		t.Error(calls, got)
	}
}

func TestP1304Same(t *testing.T) {
	make := func() api.Pred {
		return join(api.Or, ask(api.In, 1, value.Cat("a"), value.Cat("b")), join(api.And, whole, nil0))
	}
	if !Same(make(), make()) || !Same(api.Pred{}, api.Pred{}) || !Same(api.Pred{Kids: []api.Pred{}}, api.Pred{Values: []api.Value{}}) {
		t.Error("not the same")
	}
	for i, change := range []func(p *api.Pred){
		func(p *api.Pred) { p.Op = api.And }, func(p *api.Pred) { p.Field = 1 }, func(p *api.Pred) { p.Values = []api.Value{{}} }, func(p *api.Pred) { p.Kids = p.Kids[:1] }, func(p *api.Pred) { p.Kids[0], p.Kids[1] = p.Kids[1], p.Kids[0] },
		func(p *api.Pred) { p.Kids[0].Values[0], p.Kids[0].Values[1] = p.Kids[0].Values[1], p.Kids[0].Values[0] }, func(p *api.Pred) { p.Kids[0].Values = p.Kids[0].Values[:1] }, func(p *api.Pred) { p.Kids[1].Kids[1] = whole }, func(p *api.Pred) { p.Kids[0].Field = 0 },
	} {
		p := make()
		change(&p)
		if Same(p, make()) || Same(make(), p) {
			t.Error("number", i, "is the same")
		}
	}
}

func TestP1305(t *testing.T) {
	y, n := yes(), no()
	for i, c := range []struct{ p, want api.Pred }{
		{y, y}, {whole, whole}, {join(99, whole), join(99, whole)}, {ask(api.In, 0, number("1")), ask(api.In, 0, number("1"))},
		{join(api.And, y, whole, n), join(api.And, y, n)}, {join(api.And, y, nil0), nil0}, {join(api.And, unknown(), nil0, y), nil0}, {join(api.And, whole, whole), whole}, {join(api.And), whole}, {join(api.And, whole, y), y}, {join(api.And, y, y), join(api.And, y, y)},
		{join(api.Or, y, nil0, n), join(api.Or, y, n)}, {join(api.Or, y, whole), whole}, {join(api.Or, nil0, nil0), nil0}, {join(api.Or), nil0}, {join(api.Or, nil0, y), y},
		{join(api.Xor, nil0, y, n), join(api.Xor, y, n)}, {join(api.Xor, nil0, nil0), nil0}, {join(api.Xor), nil0}, {join(api.Xor, y, nil0), y}, {join(api.Xor, whole, y), join(api.Xor, whole, y)}, {join(api.Xor, whole, nil0), whole},
		{join(api.Surrogate, y, n), join(api.Surrogate, y, n)}, {join(api.Surrogate, y, whole, n), join(api.Surrogate, y, whole)}, {join(api.Surrogate, y, nil0, n), join(api.Surrogate, y, nil0)}, {join(api.Surrogate, whole, n), whole}, {join(api.Surrogate, y), y}, {join(api.Surrogate), join(api.Surrogate)},
		{join(api.Or, join(api.And, whole, whole), y), whole}, {join(api.And, join(api.Or, nil0, nil0), y), nil0}, {join(api.And, join(api.Xor, nil0, whole), join(api.Surrogate, y, n)), join(api.Surrogate, y, n)}, {join(api.Surrogate, join(api.Or, y, whole), n), whole}, {join(api.Or, join(api.And, y, n), join(api.And, y, whole)), join(api.Or, join(api.And, y, n), y)},
		{join(api.And, join(api.And, y, n), y), join(api.And, join(api.And, y, n), y)},
	} {
		before := Text(c.p)
		got := Simple(c.p)
		if !Same(got, c.want) || Text(c.p) != before {
			t.Errorf("number %d, %s: %s", i, Text(c.p), Text(got))
		}
		if !Same(Simple(got), got) {
			t.Errorf("number %d, %s: another one the second time", i, Text(c.p))
		}
	}
	p := join(api.And, ask(api.In, 0, number("1")), ask(api.In, 0, number("2")))
	Simple(p).Kids[0].Values[0] = number("9")
	if Text(p) != "13(11(0,1),11(0,2))" {
		t.Error("what is told shares memory:", Text(p))
	}
}

// some tells predicates of all kinds.
func some(r *rand.Rand, deep int) api.Pred {
	if deep > 1 && r.Intn(3) > 0 {
		var kids []api.Pred
		for range r.Intn(4) {
			kids = append(kids, some(r, deep-1))
		}
		return join(api.And+r.Intn(4), kids...)
	}
	v := []api.Value{number("4"), number("5"), value.Cat("red"), {}}[r.Intn(4)]
	return []api.Pred{whole, nil0, ask(api.Less+r.Intn(6), r.Intn(4), v), ask(api.In+r.Intn(2), r.Intn(4), v, number("5")), ask(api.IsMissing+r.Intn(2), r.Intn(4))}[r.Intn(5)]
}

func TestP1305EveryRow(t *testing.T) {
	r := rand.New(rand.NewSource(1))
	values := []api.Value{{}, number("4"), number("5"), value.Cat("red"), value.Cat("x")}
	for range 4000 {
		p := some(r, 4)
		simple := Simple(p)
		for range 8 {
			row := []api.Value{values[r.Intn(5)], values[r.Intn(5)], values[r.Intn(5)]}
			if Eval(p, row) != Eval(simple, row) {
				t.Fatal(Text(p), Text(simple), row)
			}
		}
	}
}

func TestDeep(t *testing.T) {
	p := nested(5000)
	if Depth(p) != 5000 || Eval(p, row()) != api.No || !Same(p, Simple(p)) || len(Text(p)) < 5000 || !reflect.DeepEqual(p, nested(5000)) {
		t.Error("deep ones are told otherwise")
	}
}
