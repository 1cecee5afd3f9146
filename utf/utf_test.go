package utf

import (
	"math"
	"math/rand"
	"strings"
	"testing"
	"unicode/utf8"
)

func TestP601Check(t *testing.T) {
	for s, want := range map[string]int{
		"": -1, "abc": -1, "a\x00b": -1, "é€😀": -1, "\u07ff\u0800\uffff\U0010ffff\ud7ff\ue000": -1, "\ufffd": -1,
		"a\xff": 1, "\x80": 0, "é\x80": 2, "\xc3": 0, "a\xe2\x82": 1, "\xf0\x9f\x98": 0, "ab\xe2\x82x": 2, "\xe2x\x82": 0, "\xc3\xc3\xa9": 0,
		"\xc0\x80": 0, "\xc1\xbf": 0, "\xe0\x9f\xbf": 0, "\xf0\x8f\xbf\xbf": 0, "x\xed\xa0\x80": 1, "\xed\xbf\xbf": 0, "\xf4\x90\x80\x80": 0, "\xf8\x88\x80\x80\x80": 0, "\xf5\x80\x80\x80": 0, "\xc3\xe9": 0, "é\xc3": 2,
	} {
		at, is := Check(s)
		if want < 0 && (at != len(s) || !is) || want >= 0 && (at != want || is) {
			t.Errorf("Check(%q): %d, %v", s, at, is)
		}
	}
}

func TestP601Runes(t *testing.T) {
	type place struct{ at, r int }
	told := func(s string, most int) []place {
		var out []place
		for at, r := range Runes(s) {
			if out = append(out, place{at, r}); len(out) == most {
				break
			}
		}
		return out
	}
	check := func(s string, most int, want ...place) {
		t.Helper()
		got := told(s, most)
		for i := range max(len(got), len(want)) {
			if i >= len(got) || i >= len(want) || got[i] != want[i] {
				t.Errorf("%q: %v, not %v", s, got, want)
				return
			}
		}
	}
	check("", 0)
	check("aé€😀", 0, place{0, 'a'}, place{1, 0xe9}, place{3, 0x20ac}, place{6, 0x1f600})
	check("aé€😀", 2, place{0, 'a'}, place{1, 0xe9})
	check("aé\xe2\x82b", 0, place{0, 'a'}, place{1, 0xe9})
	if Count("aé€😀") != 4 || Count("") != 0 || Count("aé\xffbc") != 2 {
		t.Error("Count:", Count("aé€😀"), Count("aé\xffbc"))
	}
	seq, calls := Runes("abcdef"), 0
	for range 2 {
		calls = 0
		seq(func(int, int) bool { calls++; return calls < 3 })
		if calls != 3 {
			t.Error("calls behind a false:", calls)
		}
	}
}

func TestP601Put(t *testing.T) {
	for r := -1; r <= utf8.MaxRune+1; r++ {
		want := ""
		if utf8.ValidRune(rune(r)) {
			want = string(rune(r))
		}
		got, is := Put(r)
		if got != want || is != (want != "") {
			t.Fatalf("Put(%d): %q, %v", r, got, is)
		}
	}
	for _, r := range []int{math.MinInt, math.MaxInt, 1 << 32, 1<<32 + 'a'} {
		if got, is := Put(r); got != "" || is {
			t.Errorf("Put(%d): %q", r, got)
		}
	}
}

func TestP601ByLibrary(t *testing.T) {
	r := rand.New(rand.NewSource(1))
	bytes := []byte{'a', 0x80, 0x90, 0xa0, 0xbf, 0xc2, 0xe0, 0xe2, 0xed, 0xef, 0xf0, 0xf4, 0xff}
	for range 20000 {
		var s strings.Builder
		for range r.Intn(6) {
			s.WriteByte(bytes[r.Intn(len(bytes))])
		}
		at, is := Check(s.String())
		want := 0
		for want < s.Len() {
			c, n := utf8.DecodeRuneInString(s.String()[want:])
			if c == utf8.RuneError && n == 1 {
				break
			}
			want += n
		}
		if at != want || is != (want == s.Len()) || Count(s.String()) != utf8.RuneCountInString(s.String()[:want]) {
			t.Fatalf("%q: %d, %v, not %d", s.String(), at, is, want)
		}
	}
}

func TestP602(t *testing.T) {
	for _, c := range []struct {
		name     string
		is       func(int) bool
		yes, not []int
	}{
		{"Char", Char, []int{9, 10, 13, 32, 127, 55295, 57344, 65533, 65536, 1114111}, []int{math.MinInt, -1, 0, 8, 11, 12, 14, 31, 55296, 57343, 65534, 65535, 1114112, math.MaxInt}},
		{"NameStart", NameStart, []int{'a', 'z', 'A', 'Z', '_', ':', 192, 214, 216, 246, 248, 893, 895, 55295, 57344, 65533, 65536, 1114111}, []int{-1, 0, '0', '9', '-', '.', ' ', '@', '[', '`', '{', 183, 191, 215, 247, 894, 55296, 65534, 65535, 1114112}},
		{"NamePart", NamePart, []int{'a', 'z', 'A', 'Z', '_', ':', '0', '9', '-', '.', 183, 192, 1114111}, []int{-1, '/', ',', ' ', '\'', 182, 184, 191, 215, 247, 894, 55296, 65535, 1114112}},
		{"Space", Space, []int{9, 10, 13, 32}, []int{-1, 0, 8, 11, 12, 31, 33, 160, 0x2028}},
	} {
		for _, r := range c.yes {
			if !c.is(r) {
				t.Error(c.name, r, false)
			}
		}
		for _, r := range c.not {
			if c.is(r) {
				t.Error(c.name, r, true)
			}
		}
	}
}
