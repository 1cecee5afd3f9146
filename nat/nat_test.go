package nat

import (
	"math"
	"math/big"
	"math/rand"
	"strings"
	"testing"

	"hornbeam/api"
)

func parse(t *testing.T, s string) Nat {
	t.Helper()
	n, code := Parse(s)
	if code != api.OK {
		t.Fatalf("Parse(%q): %d", s, code)
	}
	return n
}

func bigOf(n Nat) *big.Int {
	b, _ := new(big.Int).SetString(n.Text(), 10)
	return b
}

func ofBig(b *big.Int) Nat {
	n := Nat{}
	for _, d := range b.Text(16) {
		v := uint64(strings.IndexRune("0123456789abcdef", d))
		n = Add(Mul(n, Of(16)), Of(v))
	}
	return n
}

// some tells numbers whose words are often all ones, or noughts: those at which carries and guesses go wrong.
func some(r *rand.Rand) *big.Int {
	b := new(big.Int)
	for range r.Intn(9) {
		word := []uint64{0, 1, math.MaxUint64, math.MaxUint64 - 1, 1 << 63, 1<<63 - 1, r.Uint64(), r.Uint64()}[r.Intn(8)]
		b.Lsh(b, 64).Or(b, new(big.Int).SetUint64(word))
	}
	return b.Rsh(b, uint(r.Intn(64)))
}

func TestP101Parse(t *testing.T) {
	long := strings.Repeat("9", api.MaxDigits)
	for s, want := range map[string]api.Code{
		"0": 0, "7": 0, "18446744073709551616": 0, "10000000000000000000": 0, "100000000000000000000000000000000000000": 0, long: 0,
		"": api.ErrForm, "00": api.ErrForm, "01": api.ErrForm, "-1": api.ErrForm, "+1": api.ErrForm, " 1": api.ErrForm, "1 ": api.ErrForm, "1x": api.ErrForm, "\u0661": api.ErrForm,
		"0" + long: api.ErrForm, long + "x": api.ErrForm, long + "9": api.ErrLimit,
	} {
		n, code := Parse(s)
		text := s
		if want != 0 {
			text = "0"
		}
		if code != want || n.Text() != text {
			t.Errorf("Parse(%.30q): %d, %.30s", s, code, n.Text())
		}
	}
}

func TestP101Looks(t *testing.T) {
	var zero Nat
	for _, c := range []struct {
		n            Nat
		text         string
		small        uint64
		is           bool
		bits, digits int
	}{
		{zero, "0", 0, true, 0, 1},
		{Of(0), "0", 0, true, 0, 1},
		{Of(1), "1", 1, true, 1, 1},
		{Of(255), "255", 255, true, 8, 3},
		{Of(256), "256", 256, true, 9, 3},
		{Of(999), "999", 999, true, 10, 3},
		{Of(1000), "1000", 1000, true, 10, 4},
		{Of(math.MaxUint64), "18446744073709551615", math.MaxUint64, true, 64, 20},
		{parse(t, "18446744073709551616"), "18446744073709551616", 0, false, 65, 20},
	} {
		small, is := c.n.Small()
		if c.n.Text() != c.text || small != c.small || is != c.is || c.n.Bits() != c.bits || c.n.Digits() != c.digits || c.n.Zero() != (c.text == "0") {
			t.Errorf("%s: %s %d %v %d %d %v", c.text, c.n.Text(), small, is, c.n.Bits(), c.n.Digits(), c.n.Zero())
		}
	}
}

func TestP102ByBig(t *testing.T) {
	r := rand.New(rand.NewSource(1))
	for range 4000 {
		x, y := some(r), some(r)
		a, b := ofBig(x), ofBig(y)
		check := func(what string, got Nat, want *big.Int) {
			t.Helper()
			if got.Text() != want.String() || got.Bits() != want.BitLen() {
				t.Fatalf("%s of %s and %s: %s, not %s", what, x, y, got.Text(), want)
			}
		}
		if Cmp(a, b) != x.Cmp(y) {
			t.Fatal("Cmp", x, y)
		}
		check("Add", Add(a, b), new(big.Int).Add(x, y))
		check("Mul", Mul(a, b), new(big.Int).Mul(x, y))
		check("Gcd", Gcd(a, b), new(big.Int).GCD(nil, nil, x, y))
		check("Gcd of parts", Gcd(Mul(a, b), Mul(b, b)), new(big.Int).GCD(nil, nil, new(big.Int).Mul(x, y), new(big.Int).Mul(y, y)))
		by := r.Intn(400)
		check("Shift", Shift(a, by), new(big.Int).Lsh(x, uint(by)))
		check("Shift down", Shift(a, -by), new(big.Int).Rsh(x, uint(by)))
		if less, is := Sub(a, b); is != (x.Cmp(y) >= 0) {
			t.Fatal("Sub", x, y)
		} else if is {
			check("Sub", less, new(big.Int).Sub(x, y))
		} else {
			check("Sub", less, new(big.Int))
		}
		quotient, rest, is := DivMod(a, b)
		if is != (y.Sign() != 0) {
			t.Fatal("DivMod", x, y)
		}
		want, left := new(big.Int), new(big.Int)
		if is {
			want.QuoRem(x, y, left)
		}
		check("quotient", quotient, want)
		check("rest", rest, left)
	}
}

func TestP102LongDivision(t *testing.T) {
	r := rand.New(rand.NewSource(2))
	for range 3000 {
		x, y, z := some(r), some(r), some(r)
		product := new(big.Int).Mul(x, y)
		product.Add(product, z)
		if y.Sign() == 0 {
			continue
		}
		want, left := new(big.Int).QuoRem(product, y, new(big.Int))
		quotient, rest, is := DivMod(ofBig(product), ofBig(y))
		if !is || bigOf(quotient).Cmp(want) != 0 || bigOf(rest).Cmp(left) != 0 {
			t.Fatal(product, y)
		}
	}
}

func TestP102Pow(t *testing.T) {
	two := Shift(Of(1), 10000)
	for _, c := range []struct {
		a    Nat
		e    int
		bits int
		code api.Code
	}{
		{Of(0), 0, 1, 0}, {Of(0), 5, 0, 0}, {Of(1), 5000, 1, 0}, {Of(5), 0, 1, 0}, {two, 0, 1, 0},
		{Of(2), -1, 0, api.ErrArg}, {Of(2), math.MinInt, 0, api.ErrArg},
		{Of(1), 5001, 0, api.ErrLimit}, {Of(0), math.MaxInt, 0, api.ErrLimit}, {Of(2), 5000, 5001, 0},
		{Of(4), 4999, 9999, 0}, {Of(4), 5000, 0, api.ErrLimit}, {Of(1 << 10), 999, 9991, 0}, {Of(1 << 10), 1000, 0, api.ErrLimit},
		{Of(1<<11 - 1), 950, 0, api.ErrLimit}, {Of(7), 3562, 10000, 0}, {Of(7), 3563, 0, api.ErrLimit},
		{Shift(Of(1), 9999), 1, 10000, 0}, {two, 1, 0, api.ErrLimit}, {two, 5000, 0, api.ErrLimit},
	} {
		p, code := Pow(c.a, c.e)
		if code != c.code || p.Bits() != c.bits {
			t.Errorf("Pow(%.20s, %d): %d bits, %d", c.a.Text(), c.e, p.Bits(), code)
		}
	}
	for a := range uint64(20) {
		for e := range 30 {
			p, _ := Pow(Of(a), e)
			if want := new(big.Int).Exp(new(big.Int).SetUint64(a), big.NewInt(int64(e)), nil); bigOf(p).Cmp(want) != 0 {
				t.Errorf("%d to the %d: %s", a, e, p.Text())
			}
		}
	}
}

func TestP102ShiftEnds(t *testing.T) {
	for _, c := range []struct {
		a    Nat
		by   int
		bits int
	}{{Of(1), 20000, 20001}, {Of(1), 20001, 20001}, {Of(1), math.MaxInt, 20001}, {Of(0), math.MaxInt, 0}, {Of(5), math.MinInt, 0}, {Of(5), -3, 0}, {Of(5), -2, 1}, {Of(0), -1, 0}, {Shift(Of(1), 20000), -20000, 1}} {
		if got := Shift(c.a, c.by); got.Bits() != c.bits {
			t.Errorf("Shift(%.20s, %d): %d bits", c.a.Text(), c.by, got.Bits())
		}
	}
	a := Shift(Shift(Of(3), 20000), 20000)
	if got := Gcd(a, Mul(a, Of(35))); Cmp(got, a) != 0 {
		t.Error("Gcd of many twos:", got.Bits())
	}
}

func TestP102NothingIsWrittenInto(t *testing.T) {
	a, b := Shift(Of(math.MaxUint64), 64), Shift(Of(12345), 100)
	texts := a.Text() + " " + b.Text()
	Add(a, b)
	Sub(a, b)
	Mul(a, b)
	DivMod(b, a)
	quotient, rest, _ := DivMod(a, b)
	Add(Mul(quotient, rest), Of(1))
	Gcd(a, b)
	Shift(a, -70)
	Pow(b, 3)
	if got := a.Text() + " " + b.Text(); got != texts {
		t.Errorf("%s, not %s", got, texts)
	}
}

func TestP103(t *testing.T) {
	halves := func(a Nat, most int) string {
		out := ""
		for h := range Halves(a) {
			out += h.Text() + " "
			if most--; most == 0 {
				break
			}
		}
		return out
	}
	big, _ := Sub(Shift(Of(1), 66), Of(1))
	for _, c := range []struct{ got, want string }{
		{halves(Of(6), 0), "6 3 1 "}, {halves(Of(0), 0), ""}, {halves(Of(1), 0), "1 "}, {halves(Of(100), 2), "100 50 "},
		{halves(big, 3), "73786976294838206463 36893488147419103231 18446744073709551615 "},
		{Sum(nil).Text(), "0"}, {Sum(Halves(Of(0))).Text(), "0"}, {Sum(Halves(Of(10))).Text(), "18"},
	} {
		if c.got != c.want {
			t.Errorf("%q, not %q", c.got, c.want)
		}
	}
	seq := Halves(Of(64))
	for range 2 {
		calls := 0
		seq(func(Nat) bool { calls++; return calls < 3 })
		if calls != 3 {
			t.Errorf("%d calls behind a false", calls)
		}
	}
}

func TestP104(t *testing.T) {
	r := rand.New(rand.NewSource(3))
	for range 1000 {
		a, b, c := ofBig(some(r)), ofBig(some(r)), ofBig(some(r))
		if Cmp(Mul(a, Add(b, c)), Add(Mul(a, b), Mul(a, c))) != 0 {
			t.Fatal(a.Text(), b.Text(), c.Text())
		}
		if quotient, rest, is := DivMod(a, b); is && (Cmp(Add(Mul(quotient, b), rest), a) != 0 || Cmp(rest, b) >= 0) {
			t.Fatal(a.Text(), b.Text())
		}
		if back := parse(t, a.Text()); Cmp(back, a) != 0 {
			t.Fatal(a.Text())
		}
	}
}
