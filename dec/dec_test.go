package dec

import (
	"math/big"
	"math/rand"
	"strconv"
	"strings"
	"testing"

	"hornbeam/api"
	"hornbeam/rat"
)

func fraction(t *testing.T, s string) rat.Rat {
	t.Helper()
	r, code := rat.Parse(s)
	if code != api.OK {
		t.Fatalf("rat.Parse(%q): %d", s, code)
	}
	return r
}

func TestP301Parse(t *testing.T) {
	for s, want := range map[string]string{
		"0": "0", "-0": "0", "+0": "0", "-0.0e5": "0", "0e-400": "0", "00012": "12", "+7": "7", "-7": "-7", "1.": "1", ".5": "1/2", "-.5": "-1/2", "1.5": "3/2", "001.500": "3/2", "-1.50e1": "-15", "1e2": "100", "1E2": "100", "1e+2": "100", "1e-2": "1/100", "1.e2": "100", ".1e1": "1", "0.125": "1/8", "12.5e-1": "5/4", "1e0002": "100", "1e-0": "1",
	} {
		r, code := Parse(s)
		if code != api.OK || r.Text() != want {
			t.Errorf("Parse(%q): %s, %d, not %s", s, r.Text(), code, want)
		}
	}
	for _, s := range []string{"", "+", "-", ".", "-.", "e5", ".e5", "1e", "1e+", "1e-", "1ee5", "1e5e5", "1e5.5", "1.2.3", "--1", "+-1", "1-", "1+1", "1e1-", "1e--1", " 1", "1 ", "1_0", "0x10", "inf", "NaN", "1/2", "1,5", "\u0661", "1\x00", "e", "e+1", "-e1"} {
		if r, code := Parse(s); code != api.ErrForm || r.Text() != "0" {
			t.Errorf("Parse(%q): %s, %d", s, r.Text(), code)
		}
	}
}

func TestP301Limits(t *testing.T) {
	long := strings.Repeat("9", 400)
	for s, want := range map[string]api.Code{
		long: 0, "-" + long: 0, long[1:] + ".9": 0, "." + long: 0, long + "e400": 0, long + "E-400": 0, "." + long + "e-400": 0, "1e" + strings.Repeat("0", 500) + "400": 0, "1e-" + strings.Repeat("0", 500): 0,
		long + "9": api.ErrLimit, long + ".9": api.ErrLimit, "0" + long: api.ErrLimit, strings.Repeat("0", 401): api.ErrLimit, "." + long + "0": api.ErrLimit,
		"1e401": api.ErrLimit, "1e-401": api.ErrLimit, "1e1000": api.ErrLimit, "0e401": api.ErrLimit, "1e99999999999999999999": api.ErrLimit, "1e-99999999999999999999": api.ErrLimit, "1e18446744073709551617": api.ErrLimit,
		long + "9x": api.ErrForm, long + "9e": api.ErrForm, "1e401.": api.ErrForm,
	} {
		r, code := Parse(s)
		if code != want || code != 0 && r.Text() != "0" {
			t.Errorf("Parse(%.20q, %d bytes): %d, not %d", s, len(s), code, want)
		}
	}
	r, _ := Parse("." + long + "e-400")
	if places, ok := Places(r); places != 800 || !ok {
		t.Error("the least literal:", places, ok)
	}
	r, _ = Parse(long + "e400")
	if text, code := Text(r); code != 0 || text != long+strings.Repeat("0", 400) {
		t.Error("the greatest literal:", len(text), code)
	}
}

func TestP302Places(t *testing.T) {
	for s, want := range map[string]int{"0": 0, "7": 0, "-100": 0, "1/2": 1, "1/4": 2, "1/5": 1, "1/25": 2, "1/10": 1, "1/40": 3, "-3/200": 3, "1/1024": 10, "1/9765625": 10, "1/3": -1, "-1/6": -1, "1/70": -1, "5/7": -1} {
		places, ok := Places(fraction(t, s))
		if ok != (want >= 0) || places != max(want, 0) || Finite(fraction(t, s)) != ok {
			t.Errorf("Places(%s): %d, %v", s, places, ok)
		}
	}
}

func TestP302Text(t *testing.T) {
	for s, want := range map[string]string{"0": "0", "7": "7", "-120": "-120", "1/2": "0.5", "-1/2": "-0.5", "1/8": "0.125", "-1/100": "-0.01", "12345/100": "", "2469/20": "123.45", "-2001/2": "-1000.5", "1/3": ""} {
		r, formed := rat.Parse(s)
		if formed != api.OK {
			continue
		}
		text, code := Text(r)
		wantCode := api.OK
		if want == "" {
			wantCode = api.ErrExact
		}
		if text != want || code != wantCode {
			t.Errorf("Text(%s): %q, %d", s, text, code)
		}
	}
	two := rat.Of(2)
	power := func(e int) rat.Rat {
		r := rat.Of(1)
		for range e {
			r = rat.Mul(r, two)
		}
		return r
	}
	inverse := func(r rat.Rat) rat.Rat { q, _ := rat.Div(rat.Of(1), r); return q }
	if text, code := Text(inverse(power(1200))); code != api.OK || len(text) != 1202 {
		t.Error("1200 places:", len(text), code)
	}
	for i, r := range []rat.Rat{inverse(power(1201)), power(4000), rat.Add(power(4000), inverse(two)), inverse(power(9000))} {
		if text, code := Text(r); code != api.ErrLimit || text != "" {
			t.Error("beyond the limit:", i, len(text), code)
		}
	}
	if _, code := Text(rat.Mul(power(4000), fraction(t, "1/3"))); code != api.ErrExact {
		t.Error("both beyond the limit and not finite:", code)
	}
}

func TestP303(t *testing.T) {
	r := rand.New(rand.NewSource(1))
	for range 2000 {
		b := new(big.Rat).SetFrac(big.NewInt(r.Int63()-1<<62), new(big.Int).Exp(big.NewInt(int64(2+3*r.Intn(2))), big.NewInt(r.Int63n(60)), nil))
		want := fraction(t, strings.TrimSuffix(b.String(), "/1"))
		text, code := Text(want)
		if code != api.OK {
			t.Fatal(b, code)
		}
		got, code := Parse(text)
		if code != api.OK || !rat.Same(got, want) {
			t.Fatal(b, text, code)
		}
		if places, _ := Places(want); text != b.FloatString(places) && text != "0" {
			t.Fatal(b, text)
		}
	}
	for range 500 {
		s := strconv.FormatFloat(r.NormFloat64(), 'e', -1, 64)
		want, _ := new(big.Rat).SetString(s)
		got, code := Parse(s)
		if code != api.OK || got.Text() != strings.TrimSuffix(want.String(), "/1") {
			t.Fatal(s, got.Text(), code)
		}
	}
}
