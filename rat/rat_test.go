package rat

import (
	"math"
	"math/big"
	"math/rand"
	"slices"
	"strings"
	"testing"

	"hornbeam/api"
	"hornbeam/nat"
)

func parse(t *testing.T, s string) Rat {
	t.Helper()
	r, code := Parse(s)
	if code != api.OK {
		t.Fatalf("Parse(%q): %d", s, code)
	}
	return r
}

func digits(t *testing.T, s string) nat.Nat {
	t.Helper()
	n, code := nat.Parse(s)
	if code != api.OK {
		t.Fatalf("nat.Parse(%q): %d", s, code)
	}
	return n
}

// some tells fractions of both signs, small and great, whole and not.
func some(r *rand.Rand) *big.Rat {
	num := new(big.Int).Rand(r, new(big.Int).Lsh(big.NewInt(1), uint(1+r.Intn(200))))
	den := new(big.Int).Rand(r, new(big.Int).Lsh(big.NewInt(1), uint(1+r.Intn(200))))
	switch r.Intn(4) {
	case 0:
		num, den = big.NewInt(r.Int63n(7)), big.NewInt(r.Int63n(5))
	case 1:
		den.SetInt64(0)
	}
	if r.Intn(2) == 0 {
		num.Neg(num)
	}
	return new(big.Rat).SetFrac(num, den.Add(den, big.NewInt(1)))
}

func text(b *big.Rat) string { return strings.TrimSuffix(b.String(), "/1") }

func TestP201Make(t *testing.T) {
	for _, c := range []struct {
		neg      bool
		num, den string
		want     string
	}{
		{false, "0", "1", "0"}, {true, "0", "7", "0"}, {false, "0", "18446744073709551616", "0"}, {true, "6", "4", "-3/2"}, {false, "6", "3", "2"}, {true, "5", "5", "-1"}, {false, "1", "10000000000000000000000", "1/10000000000000000000000"},
	} {
		r, code := Make(c.neg, digits(t, c.num), digits(t, c.den))
		if code != api.OK || r.Text() != c.want || r.Neg() != (c.want[0] == '-') || r.Whole() == strings.Contains(c.want, "/") {
			t.Errorf("Make(%v, %s, %s): %s, %d", c.neg, c.num, c.den, r.Text(), code)
		}
	}
	r, code := Make(true, nat.Of(5), nat.Of(0))
	if code != api.ErrZero || r.Text() != "0" || r.Neg() {
		t.Error("Make over 0:", r.Text(), code)
	}
	half, _ := Make(true, nat.Of(50), nat.Of(100))
	if half.Num().Text() != "1" || half.Den().Text() != "2" || !half.Neg() || half.Whole() {
		t.Error("-50/100:", half.Num().Text(), half.Den().Text())
	}
	var zero Rat
	if zero.Text() != "0" || zero.Neg() || !zero.Whole() || zero.Num().Text() != "0" || zero.Den().Text() != "1" || !Same(zero, Of(0)) {
		t.Error("a zero Rat:", zero.Text(), zero.Den().Text())
	}
	for v, want := range map[int]string{0: "0", 7: "7", -7: "-7", math.MaxInt: "9223372036854775807", math.MinInt: "-9223372036854775808"} {
		if got := Of(v); got.Text() != want || got.Neg() != (v < 0) {
			t.Errorf("Of(%d): %s", v, got.Text())
		}
	}
}

func TestP201Parse(t *testing.T) {
	long := strings.Repeat("9", api.MaxDigits)
	even := "2" + strings.Repeat("0", 2*api.MaxDigits+7)
	for s, want := range map[string]api.Code{
		"0": 0, "7": 0, "-7": 0, "1/2": 0, "-3/2": 0, long: 0, "-" + long: 0, long + "/2": 0, "1/" + long: 0,
		"": api.ErrForm, "-": api.ErrForm, "/": api.ErrForm, "1/": api.ErrForm, "/2": api.ErrForm, "--1": api.ErrForm, "+1": api.ErrForm, "-0": api.ErrForm, "0/1": api.ErrForm, "0/2": api.ErrForm, "-0/2": api.ErrForm,
		"1/0": api.ErrForm, "1/1": api.ErrForm, "2/4": api.ErrForm, "6/3": api.ErrForm, "01": api.ErrForm, "1/02": api.ErrForm, "1/-2": api.ErrForm, "1/2/3": api.ErrForm, "1.5": api.ErrForm, " 1": api.ErrForm, "1/2 ": api.ErrForm,
		"1" + long: api.ErrLimit, "-1" + long: api.ErrLimit, "1/1" + long: api.ErrLimit, long + "9/2": api.ErrLimit,
		// what Text never tells is no such text, however long it is
		long + "9/x": api.ErrForm, long + "9/": api.ErrForm, long + "9/0": api.ErrForm, long + "9/1": api.ErrForm, long + "9/3": api.ErrForm, "x/" + long + "9": api.ErrForm, "0/1" + long: api.ErrForm, even + "/2": api.ErrForm, even + "/7": api.ErrLimit, "4/" + even: api.ErrForm, even + "/" + long: api.ErrLimit,
	} {
		r, code := Parse(s)
		text := s
		if want != 0 {
			text = "0"
		}
		if code != want || r.Text() != text {
			t.Errorf("Parse(%.30q, %d bytes): %.30s, %d, not %d", s, len(s), r.Text(), code, want)
		}
	}
}

func TestP202ByBig(t *testing.T) {
	r := rand.New(rand.NewSource(1))
	for range 4000 {
		x, y := some(r), some(r)
		a, b := parse(t, text(x)), parse(t, text(y))
		check := func(what string, got Rat, want *big.Rat) {
			t.Helper()
			if got.Text() != text(want) {
				t.Fatalf("%s of %s and %s: %s, not %s", what, x, y, got.Text(), want)
			}
		}
		if Cmp(a, b) != x.Cmp(y) || Same(a, b) != (x.Cmp(y) == 0) || !Same(a, a) || Cmp(a, a) != 0 {
			t.Fatal("Cmp, Same", x, y)
		}
		check("Add", Add(a, b), new(big.Rat).Add(x, y))
		check("Sub", Sub(a, b), new(big.Rat).Sub(x, y))
		check("Sub of itself", Sub(a, a), new(big.Rat))
		check("Mul", Mul(a, b), new(big.Rat).Mul(x, y))
		whole := new(big.Int).Div(x.Num(), x.Denom()) // rounds down, as x.Denom() is above 0
		check("Floor", Floor(a), new(big.Rat).SetInt(whole))
		up := new(big.Int).Neg(new(big.Int).Div(new(big.Int).Neg(x.Num()), x.Denom()))
		check("Ceil", Ceil(a), new(big.Rat).SetInt(up))
		got, code := Div(a, b)
		if y.Sign() == 0 {
			check("Div", got, new(big.Rat))
		} else {
			check("Div", got, new(big.Rat).Quo(x, y))
		}
		if (code == api.ErrZero) != (y.Sign() == 0) || code != api.OK && code != api.ErrZero {
			t.Fatal("Div", x, y, code)
		}
	}
}

func TestP202Round(t *testing.T) {
	for s, want := range map[string]string{"0": "0", "5": "5", "-5": "-5", "1/2": "1", "-1/2": "-1", "5/2": "3", "-5/2": "-3", "3/2": "2", "-3/2": "-2", "1/3": "0", "-1/3": "0", "2/3": "1", "-2/3": "-1", "49999999999999999999/100000000000000000000": "0", "50000000000000000001/100000000000000000000": "1"} {
		if got := Round(parse(t, s)); got.Text() != want || got.Neg() != (want[0] == '-') {
			t.Errorf("Round(%s): %s", s, got.Text())
		}
	}
	if got := Ceil(parse(t, "-1/2")); got.Text() != "0" || got.Neg() {
		t.Error("Ceil(-1/2):", got.Text())
	}
}

func TestP203(t *testing.T) {
	list := func(l ...string) func(func(Rat) bool) {
		var all []Rat
		for _, s := range l {
			all = append(all, parse(t, s))
		}
		return slices.Values(all)
	}
	for _, c := range []struct {
		seq              func(func(Rat) bool)
		sum, least, most string
		is               bool
	}{
		{nil, "0", "0", "0", false}, {list(), "0", "0", "0", false}, {list("1/2"), "1/2", "1/2", "1/2", true}, {list("1/2", "-2/3", "5"), "29/6", "-2/3", "5", true}, {list("-1", "-2"), "-3", "-2", "-1", true}, {list("3", "2", "4"), "9", "2", "4", true},
	} {
		sum := Sum(c.seq)
		least, isLeast := Least(c.seq)
		most, isMost := Most(c.seq)
		if sum.Text() != c.sum || least.Text() != c.least || most.Text() != c.most || isLeast != c.is || isMost != c.is {
			t.Errorf("%+v: %s %s %v %s %v", c, sum.Text(), least.Text(), isLeast, most.Text(), isMost)
		}
	}
	top, _ := nat.Pow(nat.Of(10), api.MaxDigits)
	last, _ := nat.Sub(top, nat.Of(1))
	whole := func(n nat.Nat) Rat { r, _ := Make(false, n, nat.Of(1)); return r }
	under := func(n nat.Nat) Rat { r, _ := Make(true, nat.Of(1), n); return r }
	for i, c := range []struct {
		r    Rat
		want bool
	}{{Rat{}, false}, {Of(math.MinInt), false}, {whole(last), false}, {under(last), false}, {whole(top), true}, {under(top), true}, {whole(nat.Shift(top, 5000)), true}, {under(nat.Shift(top, -2)), false}} {
		if Big(c.r) != c.want {
			t.Errorf("Big of number %d: %v", i, !c.want)
		}
	}
}

func TestP204(t *testing.T) {
	r := rand.New(rand.NewSource(2))
	for range 500 {
		a, b, c := parse(t, text(some(r))), parse(t, text(some(r))), parse(t, text(some(r)))
		if !Same(Mul(a, Add(b, c)), Add(Mul(c, a), Mul(b, a))) || !Same(Add(Add(a, b), c), Add(b, Add(c, a))) {
			t.Fatal(a.Text(), b.Text(), c.Text())
		}
		if quotient, code := Div(a, b); code == api.OK && !Same(Mul(quotient, b), a) {
			t.Fatal(a.Text(), b.Text())
		}
	}
}
