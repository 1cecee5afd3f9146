package pbuf

import (
	"encoding/binary"
	"fmt"
	"math"
	"math/rand"
	"slices"
	"strings"
	"testing"

	"hornbeam/api"
)

func TestP1001(t *testing.T) {
	for v, want := range map[uint64]string{0: "\x00", 1: "\x01", 127: "\x7f", 128: "\x80\x01", 300: "\xac\x02", 1 << 14: "\x80\x80\x01", math.MaxUint32: "\xff\xff\xff\xff\x0f", 1 << 63: "\x80\x80\x80\x80\x80\x80\x80\x80\x80\x01", math.MaxUint64: "\xff\xff\xff\xff\xff\xff\xff\xff\xff\x01"} {
		if got := PutVarint(v); got != want {
			t.Errorf("PutVarint(%d): %x", v, got)
		}
		if got, n, ok := GetVarint(want + "\xff"); got != v || n != len(want) || !ok {
			t.Errorf("GetVarint(%x): %d, %d, %v", want, got, n, ok)
		}
	}
	nines := strings.Repeat("\xff", 9)
	for b, want := range map[string]string{
		"\x80\x00": "0 2 true", "\xff\x80\x80\x00x": "127 4 true", "\x80\x80\x80\x80\x80\x80\x80\x80\x80\x00": "0 10 true",
		"": "0 0 false", "\x80": "0 0 false", nines: "0 0 false", nines + "\x02": "0 0 false", nines + "\x7f": "0 0 false", nines + "\x81": "0 0 false", nines + "\x80\x00": "0 0 false", nines + "\xff\x01": "0 0 false",
	} {
		v, n, ok := GetVarint(b)
		if got := fmt.Sprint(v, n, ok); got != want {
			t.Errorf("GetVarint(%x): %s", b, got)
		}
	}
	r := rand.New(rand.NewSource(1))
	for range 2000 {
		v := r.Uint64() >> r.Intn(64)
		if want := string(binary.AppendUvarint(nil, v)); PutVarint(v) != want {
			t.Fatal(v)
		}
	}
}

func TestP1002(t *testing.T) {
	long := strings.Repeat("x", api.MaxText)
	for _, c := range []struct {
		f    Field
		want string
	}{
		{Field{Num: 1}, "\x08\x00"}, {Field{Num: 1, Val: 300, At: 99}, "\x08\xac\x02"}, {Field{Num: 16, Val: math.MaxUint64}, "\x80\x01\xff\xff\xff\xff\xff\xff\xff\xff\xff\x01"},
		{Field{Num: 2, Kind: Fixed64, Val: 0x0102030405060708}, "\x11\x08\x07\x06\x05\x04\x03\x02\x01"}, {Field{Num: 2, Kind: Fixed64, Val: math.MaxUint64}, "\x11\xff\xff\xff\xff\xff\xff\xff\xff"},
		{Field{Num: 3, Kind: Fixed32, Val: 0x01020304}, "\x1d\x04\x03\x02\x01"}, {Field{Num: 3, Kind: Fixed32, Val: math.MaxUint32}, "\x1d\xff\xff\xff\xff"},
		{Field{Num: 4, Kind: Bytes}, "\x22\x00"}, {Field{Num: 4, Kind: Bytes, Data: "ab"}, "\x22\x02ab"}, {Field{Num: 4, Kind: Bytes, Data: long}, "\x22\xe0\xd4\x03" + long},
		{Field{Num: 536870911, Val: 1}, "\xf8\xff\xff\xff\x0f\x01"},
	} {
		if got, code := Put(c.f); got != c.want || code != api.OK {
			t.Errorf("Put(%.60v): %.20x, %d", c.f, got, code)
		}
	}
	for _, f := range []Field{{}, {Num: -1}, {Num: 536870912}, {Num: math.MaxInt}, {Num: math.MinInt}, {Num: 1, Kind: 3}, {Num: 1, Kind: 4}, {Num: 1, Kind: 6}, {Num: 1, Kind: -1}, {Num: 1, Kind: 8}, {Num: 1, Kind: Fixed32, Val: 1 << 32}, {Num: 1, Kind: Bytes, Val: 1}, {Num: 1, Kind: Bytes, Val: 2, Data: "ab"}, {Num: 1, Data: "x"}, {Num: 1, Kind: Fixed64, Data: "x"}, {Num: 1, Kind: Fixed32, Data: "x"}, {Num: 1, Kind: Bytes, Data: long + "x"}} {
		if got, code := Put(f); got != "" || code != api.ErrArg {
			t.Errorf("Put(%.60v): %x, %d", f, got, code)
		}
	}
}

func TestP1003(t *testing.T) {
	head := "\x08\x05\x12\x01x" // two fields of five bytes
	two := []Field{{Num: 1, Val: 5}, {Num: 2, Kind: Bytes, At: 2, Data: "x"}}
	for b, want := range map[string]struct {
		l  []Field
		at int
	}{
		"": {nil, -1}, head: {two, -1}, "\x88\x00\x85\x00\x12\x81\x00x": {[]Field{{Num: 1, Val: 5}, {Num: 2, Kind: Bytes, At: 4, Data: "x"}}, -1},
		"\x11\x01\x00\x00\x00\x00\x00\x00\x80\x1d\x01\x00\x00\x80": {[]Field{{Num: 2, Kind: Fixed64, Val: 1<<63 | 1}, {Num: 3, Kind: Fixed32, At: 9, Val: 1<<31 | 1}}, -1},
		"\xf8\xff\xff\xff\x0f\x00":                                 {[]Field{{Num: 536870911}}, -1},
		head + "\x80":                                              {two, 5}, head + "\x08": {two, 5}, head + "\x08\x80": {two, 5}, head + "\x00\x01": {two, 5}, head + "\x02\x00": {two, 5}, head + "\x0b": {two, 5}, head + "\x0c": {two, 5}, head + "\x0e\x00": {two, 5}, head + "\x0f": {two, 5},
		head + "\x12": {two, 5}, head + "\x12\x02x": {two, 5}, head + "\x12\xff\xff\xff\xff\xff\xff\xff\xff\xff\x01": {two, 5}, head + "\x12\x80\x80\x80\x80\x80\x80\x80\x80\x80\x01": {two, 5},
		head + "\x11\x00\x00\x00\x00\x00\x00\x00": {two, 5}, head + "\x1d\x00\x00\x00": {two, 5}, head + "\x80\x80\x80\x80\x10\x00": {two, 5}, head + "\x88\x80\x80\x80\x80\x80\x80\x80\x80\x01\x00": {two, 5}, "\xff": {nil, 0},
	} {
		wrong := api.Diag{}
		all := want.l
		if want.at >= 0 {
			wrong, all = api.Diag{Code: api.ErrWire, At: want.at}, nil
		}
		if got, diag := Fields(b); !slices.Equal(got, all) || diag != wrong {
			t.Errorf("Fields(%x): %v, %v", b, got, diag)
		}
		for range 2 {
			var told []Field
			last := api.Diag{}
			for f, diag := range Each(b) {
				if last.Code != 0 {
					t.Errorf("Each(%x) goes on behind its Diag", b)
				}
				if last = diag; diag.Code == 0 {
					told = append(told, f)
				} else if f != (Field{}) {
					t.Errorf("Each(%x): %v beside a Diag", b, f)
				}
			}
			if !slices.Equal(told, want.l) || last != wrong {
				t.Errorf("Each(%x): %v, %v", b, told, last)
			}
		}
	}
	most := strings.Repeat("\x08\x01", api.MaxText/2)
	if got, diag := Fields(most); len(got) != api.MaxText/2 || diag.Code != 0 {
		t.Error("as long as may be:", len(got), diag)
	}
	calls := 0
	for _, diag := range Each(most + "\x08") {
		if calls++; diag != (api.Diag{Code: api.ErrLimit}) {
			t.Error("too long:", diag)
		}
	}
	if got, diag := Fields(most + "\x08"); len(got) != 0 || diag != (api.Diag{Code: api.ErrLimit}) || calls != 1 {
		t.Error("too long:", len(got), diag, calls)
	}
	calls = 0
	Each(head + head)(func(Field, api.Diag) bool { calls++; return calls < 3 })
	if calls != 3 {
		t.Error("calls behind a false:", calls)
	}
	calls = 0
	Each(head + "\x00")(func(Field, api.Diag) bool { calls++; return calls < 2 })
	if calls != 2 {
		t.Error("calls behind a false:", calls)
	}
}

func TestP1003Zigzag(t *testing.T) {
	for v, want := range map[int]uint64{0: 0, -1: 1, 1: 2, -2: 3, 2: 4, math.MaxInt: math.MaxUint64 - 1, math.MinInt: math.MaxUint64} {
		if Zigzag(v) != want || Unzigzag(want) != v {
			t.Error(v, Zigzag(v), Unzigzag(want))
		}
	}
}

func TestP1004(t *testing.T) {
	r := rand.New(rand.NewSource(2))
	for range 2000 {
		var want []Field
		var b strings.Builder
		for range r.Intn(6) {
			f := Field{Num: 1 + r.Intn(maxNum), Kind: []int{Varint, Fixed64, Bytes, Fixed32}[r.Intn(4)], At: b.Len()}
			switch f.Kind {
			case Bytes:
				f.Data = strings.Repeat("\xff\x00", r.Intn(200))
			case Fixed32:
				f.Val = uint64(r.Uint32())
			default:
				f.Val = r.Uint64() >> r.Intn(64)
			}
			s, _ := Put(f)
			b.WriteString(s)
			want = append(want, f)
		}
		if got, diag := Fields(b.String()); !slices.Equal(got, want) || diag.Code != 0 {
			t.Fatalf("%x: %v", b.String(), diag)
		}
	}
}
