package ieee

import (
	"math"
	"math/big"
	"math/rand"
	"strings"
	"testing"

	"hornbeam/api"
	"hornbeam/rat"
)

func fraction(t *testing.T, s string) rat.Rat {
	t.Helper()
	r, code := rat.Parse(s)
	if code != api.OK {
		t.Fatalf("rat.Parse(%q): %d", s, code)
	}
	return r
}

func ofBig(t *testing.T, b *big.Rat) rat.Rat {
	t.Helper()
	return fraction(t, strings.TrimSuffix(b.String(), "/1"))
}

func TestP401Forms(t *testing.T) {
	if Single() != (Form{8, 23}) || Double() != (Form{11, 52}) {
		t.Error(Single(), Double())
	}
	one := rat.Of(1)
	for f, want := range map[Form]bool{{8, 23}: true, {11, 52}: true, {2, 1}: true, {2, 52}: true, {11, 1}: true, {1, 23}: false, {12, 23}: false, {8, 0}: false, {8, 53}: false, {}: false, {-1, -1}: false, {math.MinInt, 5}: false, {5, math.MaxInt}: false} {
		if f.Valid() != want {
			t.Error(f, f.Valid())
		}
		if want {
			continue
		}
		r, kind := f.Decode(0)
		exact, isExact := f.Exact(one)
		below, isBelow := f.Below(one)
		above, isAbove := f.Above(one)
		next, isNext := f.Next(0)
		if r.Text() != "0" || kind != NaN || exact != 0 || isExact || below != 0 || isBelow || above != 0 || isAbove || next != 0 || isNext || f.Nearest(one) != 0 {
			t.Error("a form that is none answers:", f)
		}
	}
}

func TestP401Decode(t *testing.T) {
	for _, c := range []struct {
		f    Form
		bits uint64
		text string
		kind int
	}{
		{Single(), 0x3fc00000, "3/2", Finite}, {Single(), 0xbfc00000, "-3/2", Finite}, {Single(), 0, "0", Finite}, {Single(), 0x80000000, "0", Finite}, {Single(), 0x7f800000, "0", PlusInf}, {Single(), 0xff800000, "0", MinusInf}, {Single(), 0x7f800001, "0", NaN}, {Single(), 0xffc00000, "0", NaN}, {Single(), 0x7fffffff, "0", NaN},
		{Single(), 0xabcdef013fc00000, "3/2", Finite}, {Single(), 1 << 32, "0", Finite}, {Single(), 0x7f7fffff, "340282346638528859811704183484516925440", Finite}, {Single(), 1, "1/713623846352979940529142984724747568191373312", Finite}, {Single(), 0x00800000, "1/85070591730234615865843651857942052864", Finite},
		{Double(), 0x3ff8000000000000, "3/2", Finite}, {Double(), 0xfff0000000000000, "0", MinusInf}, {Double(), 0x7ff0000000000000, "0", PlusInf}, {Double(), math.MaxUint64, "0", NaN}, {Double(), 1 << 63, "0", Finite},
		{Form{2, 1}, 1, "1/2", Finite}, {Form{2, 1}, 2, "1", Finite}, {Form{2, 1}, 5, "3", Finite}, {Form{2, 1}, 6, "0", PlusInf}, {Form{2, 1}, 7, "0", NaN}, {Form{2, 1}, 13, "-3", Finite}, {Form{2, 1}, 14, "0", MinusInf}, {Form{2, 1}, 16 + 13, "-3", Finite},
	} {
		r, kind := c.f.Decode(c.bits)
		if r.Text() != c.text || kind != c.kind {
			t.Errorf("%v %x: %s, %d", c.f, c.bits, r.Text(), kind)
		}
	}
}

func TestP401ByFloats(t *testing.T) {
	r := rand.New(rand.NewSource(1))
	for range 3000 {
		bits := r.Uint64()
		if r.Intn(3) == 0 {
			bits &= 1<<52 - 1 // the least ones
		}
		got, kind := Double().Decode(bits)
		if v := math.Float64frombits(bits); !math.IsNaN(v) && !math.IsInf(v, 0) {
			if want := ofBig(t, new(big.Rat).SetFloat64(v)); kind != Finite || !rat.Same(got, want) {
				t.Fatalf("%x: %s", bits, got.Text())
			}
		}
		low := uint64(uint32(bits))
		got, kind = Single().Decode(low)
		if v := float64(math.Float32frombits(uint32(low))); !math.IsNaN(v) && !math.IsInf(v, 0) {
			if want := ofBig(t, new(big.Rat).SetFloat64(v)); kind != Finite || !rat.Same(got, want) {
				t.Fatalf("%x: %s", low, got.Text())
			}
		}
	}
}

// finite tells all numbers of a small form, from the least on; 0 once.
func finite(f Form) []uint64 {
	var out []uint64
	greatest := uint64(1)<<(f.Exp+f.Frac) - 1<<f.Frac - 1
	for size := greatest; size > 0; size-- {
		out = append(out, 1<<(f.Exp+f.Frac)|size)
	}
	for size := range greatest + 1 {
		out = append(out, size)
	}
	return out
}

func TestP402EachOfSmallForms(t *testing.T) {
	for _, f := range []Form{{2, 1}, {2, 3}, {3, 2}, {4, 1}} {
		all := finite(f)
		for i, bits := range all {
			r, _ := f.Decode(bits)
			exact, is := f.Exact(r)
			below, isBelow := f.Below(r)
			above, isAbove := f.Above(r)
			if exact != bits || below != bits || above != bits || !is || !isBelow || !isAbove || f.Nearest(r) != bits {
				t.Fatalf("%v %x: %x %x %x", f, bits, exact, below, above)
			}
			next, is := f.Next(bits)
			if i+1 == len(all) {
				if next != 0 || is {
					t.Fatalf("%v: one above the greatest: %x", f, next)
				}
				continue
			}
			if next != all[i+1] || !is {
				t.Fatalf("%v %x: %x", f, bits, next)
			}
			up, _ := f.Decode(next)
			middle, _ := rat.Div(rat.Add(r, up), rat.Of(2))
			between(t, f, bits, next, middle, 0)
			between(t, f, bits, next, rat.Add(rat.Mul(r, fraction(t, "2/3")), rat.Mul(up, fraction(t, "1/3"))), -1)
			between(t, f, bits, next, rat.Add(rat.Mul(r, fraction(t, "1/3")), rat.Mul(up, fraction(t, "2/3"))), 1)
		}
	}
}

// between asks a number between two that stand beside each other; side says which one is nearer.
func between(t *testing.T, f Form, low, high uint64, r rat.Rat, side int) {
	t.Helper()
	exact, is := f.Exact(r)
	below, isBelow := f.Below(r)
	above, isAbove := f.Above(r)
	want := low
	if side > 0 || side == 0 && high&1 == 0 {
		want = high
	}
	if exact != 0 || is || below != low || above != high || !isBelow || !isAbove || f.Nearest(r) != want {
		t.Fatalf("%v, %s between %x and %x: %x %x, %x", f, r.Text(), low, high, below, above, f.Nearest(r))
	}
}

func TestP402Ends(t *testing.T) {
	greatest := "340282346638528859811704183484516925440"
	half := "340282356779733661637539395458142568448" // the greatest, and half of the step ahead of it
	less := "340282356779733661637539395458142568447"
	for _, c := range []struct {
		r, below, above string
		nearest         uint64
	}{
		{greatest, "7f7fffff", "7f7fffff", 0x7f7fffff}, {"-" + greatest, "ff7fffff", "ff7fffff", 0xff7fffff},
		{less, "7f7fffff", "", 0x7f7fffff}, {half, "7f7fffff", "", 0x7f800000}, {half + "0", "7f7fffff", "", 0x7f800000},
		{"-" + less, "", "ff7fffff", 0xff7fffff}, {"-" + half, "", "ff7fffff", 0xff800000}, {"-" + half + "0", "", "ff7fffff", 0xff800000},
		{"0", "0", "0", 0}, {"1/10", "3dcccccc", "3dcccccd", 0x3dcccccd}, {"-1/10", "bdcccccd", "bdcccccc", 0xbdcccccd},
		{"1/1427247692705959881058285969449495136382746623", "0", "1", 1}, {"1/1427247692705959881058285969449495136382746624", "0", "1", 0}, {"-1/1427247692705959881058285969449495136382746624", "80000001", "0", 0}, {"-1/1427247692705959881058285969449495136382746623", "80000001", "0", 0x80000001},
		{"1/" + strings.Repeat("9", 1000), "0", "1", 0}, {strings.Repeat("9", 1000), "7f7fffff", "", 0x7f800000}, {"-1/" + strings.Repeat("9", 1000), "80000001", "0", 0},
	} {
		r := fraction(t, c.r)
		below, isBelow := Single().Below(r)
		above, isAbove := Single().Above(r)
		if text(below, isBelow) != c.below || text(above, isAbove) != c.above || Single().Nearest(r) != c.nearest {
			t.Errorf("%s: %s, %s, %x", c.r, text(below, isBelow), text(above, isAbove), Single().Nearest(r))
		}
		if !isBelow && below != 0 || !isAbove && above != 0 {
			t.Error("beside a false:", below, above)
		}
	}
}

func text(bits uint64, is bool) string {
	if !is {
		return ""
	}
	return new(big.Int).SetUint64(bits).Text(16)
}

func TestP402ByFloats(t *testing.T) {
	r := rand.New(rand.NewSource(2))
	for range 2000 {
		num := new(big.Int).Rand(r, new(big.Int).Lsh(big.NewInt(1), uint(1+r.Intn(300))))
		den := new(big.Int).Rand(r, new(big.Int).Lsh(big.NewInt(1), uint(1+r.Intn(300))))
		b := new(big.Rat).SetFrac(num, den.Add(den, big.NewInt(1)))
		if r.Intn(2) == 0 {
			b.Neg(b)
		}
		want32, _ := b.Float32()
		want64, _ := b.Float64()
		v := ofBig(t, b)
		if got := Single().Nearest(v); got != uint64(math.Float32bits(want32)) && got != 0 {
			t.Fatalf("%s: %x", b, got)
		}
		if got := Double().Nearest(v); got != math.Float64bits(want64) && got != 0 {
			t.Fatalf("%s: %x", b, got)
		}
	}
}

func TestP403(t *testing.T) {
	for _, c := range []struct {
		bits, next uint64
		is         bool
	}{
		{0, 1, true}, {0x80000000, 1, true}, {0x80000001, 0, true}, {0x80000002, 0x80000001, true}, {0x3f7fffff, 0x3f800000, true}, {0x007fffff, 0x00800000, true}, {0x7f7ffffe, 0x7f7fffff, true}, {0xff7fffff, 0xff7ffffe, true},
		{0x7f7fffff, 0, false}, {0x7f800000, 0, false}, {0xff800000, 0, false}, {0x7fc00000, 0, false}, {0xffffffff, 0, false}, {0x500000000, 1, true}, {0x57f7fffff, 0, false},
	} {
		next, is := Single().Next(c.bits)
		if next != c.next || is != c.is {
			t.Errorf("Next(%x): %x, %v", c.bits, next, is)
		}
	}
}

func TestP404(t *testing.T) {
	r := rand.New(rand.NewSource(3))
	for range 1000 {
		v, _ := rat.Div(rat.Of(r.Int()-1<<62), rat.Of(1+r.Intn(1<<uint(1+r.Intn(60)))))
		for _, f := range []Form{Single(), Double(), {5, 10}} {
			bits, is := f.Below(v)
			if !is {
				continue
			}
			low, _ := f.Decode(bits)
			if rat.Cmp(low, v) > 0 {
				t.Fatal(f, v.Text())
			}
			if next, is := f.Next(bits); is {
				if high, _ := f.Decode(next); rat.Cmp(high, v) <= 0 {
					t.Fatal(f, v.Text())
				}
			}
			if bits, is := f.Exact(v); is {
				if back, _ := f.Decode(bits); !rat.Same(back, v) {
					t.Fatal(f, v.Text())
				}
			}
		}
	}
}
