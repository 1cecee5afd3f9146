package pmsg

import (
	"fmt"
	"math"
	"slices"
	"strings"
	"testing"

	"hornbeam/api"
	"hornbeam/pbuf"
)

func parse(t *testing.T, b string) *Msg {
	t.Helper()
	m, wrong := Parse(b)
	if m == nil || wrong.Code != 0 {
		t.Fatalf("Parse(%x): %v", b, wrong)
	}
	return m
}

func TestP1101Parse(t *testing.T) {
	if m := parse(t, ""); len(m.Nums()) != 0 {
		t.Error(m.Nums())
	}
	for b, want := range map[string]api.Diag{"\x08\x01\x08": {Code: api.ErrWire, At: 2}, "\x0b": {Code: api.ErrWire}, strings.Repeat("\x08\x01", 30001): {Code: api.ErrLimit}} {
		if m, wrong := Parse(b); m != nil || wrong != want {
			t.Errorf("Parse(%.10x): %v", b, wrong)
		}
	}
}

func TestP1101Single(t *testing.T) {
	// 1: 5, 2: "ab", 1: -1, 3: fixed32, 2: "" (in more bytes than needed), 4: fixed64, 3: fixed32, 1: text "x"
	b := "\x08\x05\x12\x02ab\x08\xff\xff\xff\xff\xff\xff\xff\xff\xff\x01\x1d\x01\x00\x00\x00\x92\x00\x80\x00\x21\x01\x02\x03\x04\x05\x06\x07\x08\x1d\x00\x00\xc0\x7f\x0a\x01x"
	m := parse(t, b)
	got := func(num int) string {
		u, isU := m.Uint(num)
		i, isI := m.Int(num)
		f, isF := m.Float(num)
		s, at, isS := m.Text(num)
		return fmt.Sprint(u, isU, i, isI, f, isF, " ", s, at, isS)
	}
	for num, want := range map[int]string{
		1: "18446744073709551615 true -1 true 0 false x42 true",
		2: "0 false 0 false 0 false 26 true",
		3: "0 false 0 false 2143289344 true 0 false",
		4: "0 false 0 false 0 false 0 false",
		9: "0 false 0 false 0 false 0 false",
	} {
		if s := strings.ReplaceAll(got(num), " ", ""); s != strings.ReplaceAll(want, " ", "") {
			t.Errorf("of %d: %s", num, got(num))
		}
	}
	if !slices.Equal(m.Texts(2), []string{"ab", ""}) || !slices.Equal(m.Texts(1), []string{"x"}) || len(m.Texts(3)) != 0 || !slices.Equal(m.Nums(), []int{1, 2, 3, 4}) {
		t.Error(m.Texts(2), m.Texts(1), m.Texts(3), m.Nums())
	}
	if s, at, _ := m.Text(1); b[at:at+len(s)] != "x" {
		t.Error("the place of a text:", at)
	}
	inner := parse(t, "\x12\x04\x0a\x02yz\x10\x01")
	s, at, _ := inner.Text(2)
	if s != "\x0a\x02yz" || at != 2 {
		t.Errorf("%x at %d", s, at)
	}
}

func TestP1101Lists(t *testing.T) {
	for b, want := range map[string]string{
		"": "[]", "\x18\x05": "[5]", "\x1a\x03\x01\xac\x02": "[1 300]", "\x18\x07\x1a\x02\x01\x02\x18\xff\xff\xff\xff\xff\xff\xff\xff\xff\x01\x10\x09\x1a\x00\x1a\x01\x03": "[7 1 2 -1 3]", "\x1d\x01\x02\x03\x04": "[]", "\x1a\x02\x80\x00": "[0]",
	} {
		got, wrong := parse(t, b).Ints(3)
		if fmt.Sprint(got) != want || wrong != (api.Diag{}) {
			t.Errorf("Ints of %x: %v, %v", b, got, wrong)
		}
	}
	for b, at := range map[string]int{"\x18\x05\x1a\x01\x80": 2, "\x1a\x01\x01\x1a\x02\x01\xff\x1a\x01\x80": 3, "\x1a\x0a" + strings.Repeat("\xff", 9) + "\x02": 0} {
		got, wrong := parse(t, b).Ints(3)
		if len(got) != 0 || wrong != (api.Diag{Code: api.ErrWire, At: at}) {
			t.Errorf("Ints of %x: %v, %v", b, got, wrong)
		}
	}
	for b, want := range map[string]string{
		"": "[]", "\x1d\x01\x02\x00\x80": "[2147484161]", "\x1a\x08\x01\x00\x00\x00\xff\xff\xff\xff\x1d\x02\x00\x00\x00\x1a\x00": "[1 4294967295 2]", "\x18\x05": "[]", "\x19\x01\x00\x00\x00\x00\x00\x00\x00": "[]",
	} {
		got, wrong := parse(t, b).Floats(3)
		if fmt.Sprint(got) != want || wrong != (api.Diag{}) {
			t.Errorf("Floats of %x: %v, %v", b, got, wrong)
		}
	}
	for b, at := range map[string]int{"\x1a\x03abc": 0, "\x1d\x01\x00\x00\x00\x1a\x05abcde": 5} {
		got, wrong := parse(t, b).Floats(3)
		if len(got) != 0 || wrong != (api.Diag{Code: api.ErrWire, At: at}) {
			t.Errorf("Floats of %x: %v, %v", b, got, wrong)
		}
	}
}

func TestP1102Put(t *testing.T) {
	m := New().PutUint(1, 300).PutText(2, "ab", "").PutInts(3, 1, 300, -1).PutFloats(4, 0x7fc00000, 1).PutInts(5).PutFloats(5).PutText(5).PutUint(1, 7)
	want := "\x08\xac\x02\x12\x02ab\x12\x00\x1a\x0d\x01\xac\x02\xff\xff\xff\xff\xff\xff\xff\xff\xff\x01\x22\x08\x00\x00\xc0\x7f\x01\x00\x00\x00\x08\x07"
	for range 2 {
		if b, code := m.Bytes(); b != want || code != 0 {
			t.Errorf("%x, %d", b, code)
		}
	}
	ints, _ := m.Ints(3)
	floats, _ := m.Floats(4)
	u, _ := m.Uint(1)
	_, at, _ := m.Text(4)
	if !slices.Equal(ints, []int{1, 300, -1}) || !slices.Equal(floats, []uint64{0x7fc00000, 1}) || u != 7 || !slices.Equal(m.Nums(), []int{1, 2, 3, 4}) || !strings.HasPrefix(want[at:], "\x00\x00\xc0\x7f") {
		t.Error(ints, floats, u, m.Nums(), at)
	}
	if b, code := New().PutInts(3, 1, 300).Bytes(); b != "\x1a\x03\x01\xac\x02" || code != 0 {
		t.Errorf("%x", b)
	}
	if b, code := New().Bytes(); b != "" || code != 0 {
		t.Error(b, code)
	}
	if b, code := parse(t, "\x88\x00\x85\x00\x1d\x01\x00\x00\x00").PutText(2, "x").Bytes(); b != "\x08\x05\x1d\x01\x00\x00\x00\x12\x01x" || code != 0 {
		t.Errorf("%x, %d", b, code)
	}
}

func TestP1102Errors(t *testing.T) {
	long := strings.Repeat("x", api.MaxText)
	for name, m := range map[string]*Msg{
		"num 0": New().PutUint(0, 1), "num below": New().PutText(-1, "x"), "num beyond": New().PutInts(536870912, 1), "pattern": New().PutFloats(1, 1<<32), "second pattern": New().PutFloats(1, 1, math.MaxUint64), "long": New().PutText(1, long+"x"), "num of floats": New().PutFloats(0, 1), "many": New().PutInts(1, make([]int, api.MaxText+1)...), "stays": New().PutUint(1, 1).PutUint(0, 1).PutUint(1, 2).PutText(1, long, long),
	} {
		m.PutUint(7, 7)
		if b, code := m.Bytes(); b != "" || code != api.ErrArg || slices.Contains(m.Nums(), 7) {
			t.Error(name, len(b), code, m.Nums())
		}
	}
	m := New().PutUint(1, 1).PutUint(0, 1).PutUint(1, 2)
	if u, is := m.Uint(1); u != 1 || !is {
		t.Error("what is put behind an error:", u)
	}
	if b, code := New().PutText(0).PutInts(0).PutFloats(0).Bytes(); b != "" || code != 0 {
		t.Error("nothing is put, and refused:", code)
	}
	if b, code := New().PutText(1, long[:api.MaxText-4]).Bytes(); len(b) != api.MaxText || code != 0 {
		t.Error("as long as may be:", len(b), code)
	}
	if b, code := New().PutText(1, long[:api.MaxText-3]).Bytes(); b != "" || code != api.ErrLimit {
		t.Error("too long:", len(b), code)
	}
}

func TestP1102Nil(t *testing.T) {
	nothing(t, nil)
	nothing(t, &Msg{})
}

// nothing asks a message that is none.
func nothing(t *testing.T, m *Msg) {
	t.Helper()
	if m.PutUint(1, 1) != nil || m.PutText(1, "x") != nil || m.PutInts(1, 1) != nil || m.PutFloats(1, 1) != nil || m.PutFloats(1, 1<<40) != nil || m.PutInts(1) != nil || m.PutText(1) != nil || m.PutFloats(1) != nil {
		t.Error("a Msg that is none answers one")
	}
	u, isU := m.Uint(1)
	i, isI := m.Int(1)
	f, isF := m.Float(1)
	s, at, isS := m.Text(1)
	ints, wrong := m.Ints(1)
	floats, wrong2 := m.Floats(1)
	if u != 0 || isU || i != 0 || isI || f != 0 || isF || s != "" || at != 0 || isS || len(ints) != 0 || len(floats) != 0 || wrong.Code != 0 || wrong2.Code != 0 || len(m.Texts(1)) != 0 || len(m.Nums()) != 0 {
		t.Error("a Msg that is none tells something")
	}
	if b, code := m.Bytes(); b != "" || code != api.ErrArg {
		t.Error(b, code)
	}
}

func TestP1102New(t *testing.T) {
	m := New().PutInts(1, 1, 2).PutText(2, "a", "b")
	m.Texts(2)[0] = "spoilt"
	m.Nums()[0] = 99
	ints, _ := m.Ints(1)
	ints[0] = 99
	if b, _ := m.Bytes(); b != "\x0a\x02\x01\x02\x12\x01a\x12\x01b" {
		t.Errorf("%x", b)
	}
	var fields []int
	for f := range pbuf.Each("\x0a\x02\x01\x02") {
		fields = append(fields, f.Num)
	}
	if !slices.Equal(fields, []int{1}) {
		t.Error(fields)
	}
}
