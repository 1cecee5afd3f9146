package diag

import (
	"math"
	"slices"
	"strings"
	"testing"

	"hornbeam/api"
)

func TestP501Add(t *testing.T) {
	var l List
	if d, is := l.First(); is || d != (api.Diag{}) || l.Len() != 0 || len(l.All()) != 0 {
		t.Error("an empty list tells", d, is, l.Len())
	}
	long := strings.Repeat("x", 59) + "yz"
	l.Add(api.OK, 3, "nothing")
	l.Add(api.ErrXml, 7, "tag")
	l.Add(api.ErrDoc, -1, long)
	l.Add(99, math.MaxInt, long[:60])
	want := []api.Diag{{Code: api.ErrXml, At: 7, What: "tag"}, {Code: api.ErrDoc, At: 0, What: long[:60]}, {Code: 99, At: math.MaxInt, What: long[:60]}}
	if !slices.Equal(l.All(), want) || l.Len() != 3 {
		t.Error(l.All())
	}
	if d, is := l.First(); !is || d != want[0] {
		t.Error(d, is)
	}
	l.All()[0].At = 99
	if !slices.Equal(l.All(), want) {
		t.Error("what is told is the list's own:", l.All())
	}
	for i := range 200 {
		l.Add(api.ErrArg, i, "")
	}
	if l.Len() != 100 || l.All()[99].At != 96 {
		t.Error("more than 100:", l.Len())
	}
}

func TestP501Each(t *testing.T) {
	var l List
	for i := range 5 {
		l.Add(api.ErrArg, 10*i, "")
	}
	each := l.Each()
	for range 2 {
		var at []int
		for i, d := range each {
			if d.At != 10*i {
				t.Error(i, d)
			}
			if at = append(at, i); i == 2 {
				break
			}
		}
		if !slices.Equal(at, []int{0, 1, 2}) {
			t.Error(at)
		}
	}
	calls := 0
	for range each {
		calls++
		l.Add(api.ErrArg, 50, "")
	}
	again := 0
	for range each {
		again++
	}
	if calls != 5 || again != 10 {
		t.Error("as they are when it begins:", calls, again)
	}
	calls = 0
	each(func(int, api.Diag) bool { calls++; return false })
	if calls != 1 {
		t.Error("calls behind a false:", calls)
	}
}

func TestP501Nil(t *testing.T) {
	var l *List
	l.Add(api.ErrArg, 1, "x")
	if d, is := l.First(); is || d != (api.Diag{}) || l.Len() != 0 || len(l.All()) != 0 {
		t.Error("a nil List tells", d)
	}
	for range l.Each() {
		t.Error("a nil List tells something")
	}
}

func TestP502Name(t *testing.T) {
	for c, want := range map[api.Code]string{0: "OK", 1: "E_ARG", 2: "E_LIMIT", 3: "E_FORM", 4: "E_ZERO", 10: "E_WIRE", 11: "E_XML", 12: "E_DOC", 13: "E_KIND", 14: "E_EXACT", 15: "E_NULL", 16: "E_ARITY", 90: "E_SCRIPT", 5: "E_5", 9: "E_9", 17: "E_17", 91: "E_91", 12345: "E_12345"} {
		if got := Name(c); got != want {
			t.Errorf("Name(%d): %s", c, got)
		}
	}
}

func TestP502Text(t *testing.T) {
	for want, d := range map[string]api.Diag{"E_XML@7 tag": {Code: api.ErrXml, At: 7, What: "tag"}, "OK@0": {}, "E_40@12": {Code: 40, At: 12}, "E_DOC@3  ": {Code: api.ErrDoc, At: 3, What: " "}} {
		if got := Text(d); got != want {
			t.Errorf("Text(%v): %q", d, got)
		}
	}
}

func TestP502Order(t *testing.T) {
	in := []api.Diag{{At: 5, What: "a"}, {At: 2, What: "b"}, {At: 5, What: "c"}, {At: -1, What: "d"}, {At: 2, What: "e"}, {At: 5, What: "f"}}
	before := slices.Clone(in)
	out := ""
	for _, d := range Order(in...) {
		out += d.What
	}
	if out != "dbeacf" || !slices.Equal(in, before) || len(Order()) != 0 {
		t.Error(out, in)
	}
}
