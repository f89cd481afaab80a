package flo

import (
	"math"
	"math/big"
	"math/rand"
	"slices"
	"testing"
)

const (
	one      = 0x3ff0000000000000
	inf      = 0x7ff0000000000000
	greatest = 0x7fefffffffffffff
	normal   = 0x0010000000000000 // the smallest float that is normal
	oneNaN   = 0x7ff8000000000000 // written out again, so that the program's own number is held against it
	nanPlace = 0xfff8000000000000
)

func bits(x float64) uint64 { return math.Float64bits(x) }

// nans are of either sign, quiet and signalling, with the ends of their payloads.
func nans() []uint64 {
	payloads := []uint64{1, 2, 1<<51 - 1, 1 << 51, 1<<51 | 1, 1<<51 | 0xbeef, 1<<52 - 1}
	var all []uint64
	for _, p := range payloads {
		all = append(all, inf|p, sign|inf|p)
	}
	return all
}

// rising are floats of which each is above the one ahead of it; none is a NaN.
func rising() []uint64 {
	up := []uint64{1, 2, normal - 1, normal, normal + 1, bits(1e-300), bits(0.5), one - 1, one, one + 1, bits(1.5),
		bits(2), bits(3), bits(1<<53 - 1), bits(1 << 53), bits(1<<53 + 2), bits(1<<63 - 1024), bits(1 << 63),
		bits(1e300), greatest - 1, greatest, inf}
	var all []uint64
	for _, f := range slices.Backward(up) {
		all = append(all, f|sign)
	}
	all = append(all, 0)
	return append(all, up...)
}

// edges are all kinds of floats, in any form.
func edges() []uint64 {
	return append(append(rising(), sign), nans()...)
}

// mixed are the edges, any bits, and floats of common sizes.
func mixed(r *rand.Rand, n int) []uint64 {
	all := edges()
	for range n {
		all = append(all, r.Uint64(), bits(r.NormFloat64()), bits(float64(r.Intn(2001)-1000)), uint64(r.Intn(2))<<63|r.Uint64()>>(12+r.Intn(52)))
	}
	return all
}

// 1.1

func TestCanonIsTheOneNaN(t *testing.T) {
	for _, f := range nans() {
		if got := Canon(f); got != oneNaN {
			t.Errorf("1.1: Canon(%#x) is %#x", f, got)
		}
	}
}

func TestCanonOfNoughts(t *testing.T) {
	if Canon(0) != 0 || Canon(sign) != 0 {
		t.Errorf("1.1: Canon of noughts: %#x %#x", Canon(0), Canon(sign))
	}
}

func TestCanonLeavesTheRest(t *testing.T) {
	for _, f := range rising() {
		if got := Canon(f); got != f {
			t.Errorf("1.1: Canon(%#x) is %#x", f, got)
		}
	}
	r := rand.New(rand.NewSource(11))
	for range 5000 {
		f := r.Uint64()
		if f&inf == inf || f&^sign == 0 {
			continue
		}
		if got := Canon(f); got != f {
			t.Fatalf("1.1: Canon(%#x) is %#x", f, got)
		}
	}
}

// 1.2

func TestOrder(t *testing.T) {
	for _, c := range []struct{ f, want uint64 }{
		{one, 0xbff0000000000000},
		{one | sign, 0x400fffffffffffff},
		{0, 0x8000000000000000},
		{sign, 0x8000000000000000},
		{1, 0x8000000000000001},
		{sign | 1, 0x7ffffffffffffffe},
		{greatest, 0xffefffffffffffff},
		{sign | greatest, 0x0010000000000000},
		{inf, 0xfff0000000000000},
		{sign | inf, 0x000fffffffffffff},
		{oneNaN, nanPlace},
	} {
		if got := Order(c.f); got != c.want {
			t.Errorf("1.2: Order(%#x) is %#x, not %#x", c.f, got, c.want)
		}
	}
	for _, f := range nans() {
		if got := Order(f); got != nanPlace {
			t.Errorf("1.2: Order(%#x) is %#x", f, got)
		}
	}
}

func TestOrderRises(t *testing.T) {
	all := rising()
	for i, f := range all[1:] {
		if Order(all[i]) >= Order(f) {
			t.Errorf("1.2: Order(%#x) is not below Order(%#x)", all[i], f)
		}
	}
}

func TestBack(t *testing.T) {
	for _, c := range []struct{ o, want uint64 }{
		{0xbff0000000000000, one},
		{0x400fffffffffffff, one | sign},
		{0x8000000000000000, 0},
		{0x8000000000000001, 1},
		{0x7ffffffffffffffe, sign | 1},
		{0xffefffffffffffff, greatest},
		{0x0010000000000000, sign | greatest},
		{0xfff0000000000000, inf},
		{0x000fffffffffffff, sign | inf},
		{nanPlace, oneNaN},
	} {
		if got, ok := Back(c.o); !ok || got != c.want {
			t.Errorf("1.2: Back(%#x) is %#x, %v, not %#x", c.o, got, ok, c.want)
		}
	}
}

func TestBackOfNoFloatsPlace(t *testing.T) {
	for _, o := range []uint64{
		0, 1, 1 << 51, 0x0007ffffffffffff, 0x000ffffffffffffe, // NaNs with a sign would stand here
		0x7fffffffffffffff,               // the nought with a sign would
		0xfff0000000000001, nanPlace - 1, // signalling NaNs would
		nanPlace + 1, 0xfffffffffffffffe, 1<<64 - 1, // NaNs with a payload would
	} {
		if got, ok := Back(o); ok || got != 0 {
			t.Errorf("1.2: Back(%#x) is %#x, %v", o, got, ok)
		}
	}
}

func TestBackTellsJustThePlacesOfOrder(t *testing.T) {
	r := rand.New(rand.NewSource(12))
	// Any bits may be a place: those of mixed hit all edges as places, too.
	for _, o := range mixed(r, 3000) {
		f, ok := Back(o)
		if ok && (Order(f) != o || Canon(f) != f) {
			t.Fatalf("1.2: Back(%#x) is %#x, of which Order tells %#x", o, f, Order(f))
		}
		if !ok && (f != 0 || placed(o)) {
			t.Fatalf("1.2: Back(%#x) refuses, beside %#x", o, f)
		}
	}
}

// placed tells whether a float has the place, by the rim of each stretch of places.
func placed(o uint64) bool {
	below := o >= 0x000fffffffffffff && o < 1<<63-1
	above := o >= 1<<63 && o <= 0xfff0000000000000
	return below || above || o == nanPlace
}

// 1.3

func TestCmpOfRising(t *testing.T) {
	all := append(rising(), oneNaN)
	for i, a := range all {
		for j, b := range all {
			want := 0
			if i < j {
				want = -1
			} else if i > j {
				want = 1
			}
			if got := Cmp(a, b); got != want {
				t.Errorf("1.3: Cmp(%#x, %#x) is %d, not %d", a, b, got, want)
			}
		}
	}
}

func TestCmpOfNoughts(t *testing.T) {
	if Cmp(0, sign) != 0 || Cmp(sign, 0) != 0 || Cmp(sign, sign) != 0 {
		t.Error("1.3: both noughts are one")
	}
	if Cmp(sign, 1) != -1 || Cmp(sign, sign|1) != 1 {
		t.Error("1.3: the nought with a sign stands where the other one does")
	}
}

func TestCmpOfNaNs(t *testing.T) {
	for _, a := range nans() {
		for _, b := range nans() {
			if Cmp(a, b) != 0 {
				t.Errorf("1.3: Cmp(%#x, %#x) is %d", a, b, Cmp(a, b))
			}
		}
		for _, f := range append(rising(), sign) {
			if Cmp(a, f) != 1 || Cmp(f, a) != -1 {
				t.Errorf("1.3: NaN %#x is not above %#x", a, f)
			}
		}
	}
}

// 1.4

func TestSum(t *testing.T) {
	for _, c := range []struct{ a, b, want uint64 }{
		{bits(0.5), bits(0.25), bits(0.75)},
		{bits(0.1), bits(0.2), 0x3fd3333333333334},
		{bits(-3), bits(2), bits(-1)},
		{0, 0, 0},
		{0, sign, 0},
		{sign, sign, 0},
		{bits(1), bits(-1), 0},
		{sign, bits(-1), bits(-1)},
		{1, 1, 2},
		{1, sign | 1, 0},
		{normal - 1, 1, normal},
		{normal, sign | 1, normal - 1},
		{bits(1 << 53), bits(1), bits(1 << 53)},
		{bits(1 << 53), bits(3), bits(1<<53 + 4)},
		{bits(1<<53 + 2), bits(1), bits(1<<53 + 4)},
		{bits(1<<53 + 2), bits(-1), bits(1 << 53)},
		{bits(-1 << 53), bits(-3), bits(-1<<53 - 4)},
		{greatest, greatest, inf},
		{sign | greatest, sign | greatest, sign | inf},
		{greatest, sign | greatest, 0},
		{greatest, bits(1), greatest},
		{greatest, bits(0x1p969), greatest},
		{greatest, bits(0x1p970), inf}, // half way to what would be next: that one is even
		{inf, inf, inf},
		{sign | inf, sign | inf, sign | inf},
		{inf, sign | greatest, inf},
		{inf, sign | inf, oneNaN},
	} {
		if got := Sum(c.a, c.b); got != c.want {
			t.Errorf("1.4: Sum(%#x, %#x) is %#x, not %#x", c.a, c.b, got, c.want)
		}
		if got := Sum(c.b, c.a); got != c.want {
			t.Errorf("1.5: Sum(%#x, %#x) is %#x, not %#x", c.b, c.a, got, c.want)
		}
	}
}

func TestSumOfNaNs(t *testing.T) {
	for _, a := range nans() {
		for _, b := range edges() {
			if Sum(a, b) != oneNaN || Sum(b, a) != oneNaN {
				t.Errorf("1.4: Sum of %#x and %#x: %#x, %#x", a, b, Sum(a, b), Sum(b, a))
			}
		}
	}
}

// exactSum is the sum by numbers of any length, rounded once at the end.
func exactSum(a, b uint64) uint64 {
	x, y := new(big.Float).SetPrec(2200), new(big.Float).SetPrec(2200)
	x.SetFloat64(math.Float64frombits(a))
	y.SetFloat64(math.Float64frombits(b))
	sum, _ := x.Add(x, y).Float64()
	if sum == 0 {
		return 0
	}
	return bits(sum)
}

func TestSumIsTheNearest(t *testing.T) {
	r := rand.New(rand.NewSource(14))
	all := mixed(r, 500)
	for range 20000 {
		a, b := all[r.Intn(len(all))], all[r.Intn(len(all))]
		if r.Intn(2) == 0 {
			// Near exponents are where rounding is to be seen.
			b = a ^ r.Uint64()>>(5+r.Intn(40)) ^ uint64(r.Intn(2))<<63
		}
		if a&inf == inf || b&inf == inf {
			continue
		}
		if got, want := Sum(a, b), exactSum(a, b); got != want {
			t.Fatalf("1.4: Sum(%#x, %#x) is %#x, not %#x", a, b, got, want)
		}
	}
}

func TestOf(t *testing.T) {
	for _, c := range []struct {
		n    int64
		want uint64
	}{
		{0, 0},
		{1, one},
		{-1, one | sign},
		{10, 0x4024000000000000},
		{1<<53 - 1, 0x433fffffffffffff},
		{1 << 53, 0x4340000000000000},
		{9007199254740993, 0x4340000000000000},
		{9007199254740994, 0x4340000000000001},
		{9007199254740995, 0x4340000000000002},
		{-9007199254740993, 0xc340000000000000},
		{-9007199254740995, 0xc340000000000002},
		{1<<54 + 1, 0x4350000000000000},
		{1<<54 + 2, 0x4350000000000000},
		{1<<54 + 3, 0x4350000000000001},
		{math.MaxInt64 - 512, 0x43dfffffffffffff},
		{math.MaxInt64 - 511, 0x43e0000000000000}, // 2^63 - 512: the even one is above
		{math.MaxInt64, 0x43e0000000000000},
		{math.MinInt64, 0xc3e0000000000000},
		{math.MinInt64 + 512, 0xc3e0000000000000},
		{math.MinInt64 + 513, 0xc3dfffffffffffff},
	} {
		if got := Of(c.n); got != c.want {
			t.Errorf("1.4: Of(%d) is %#x, not %#x", c.n, got, c.want)
		}
	}
}

func TestOfIsTheNearest(t *testing.T) {
	r := rand.New(rand.NewSource(15))
	for range 20000 {
		n := int64(r.Uint64()) >> r.Intn(64)
		want, _ := new(big.Float).SetInt64(n).Float64()
		if got := Of(n); got != bits(want) {
			t.Fatalf("1.4: Of(%d) is %#x, not %#x", n, got, bits(want))
		}
	}
}

func TestInt(t *testing.T) {
	for _, c := range []struct {
		f    uint64
		want int64
	}{
		{0, 0},
		{sign, 0},
		{one, 1},
		{one | sign, -1},
		{bits(-3), -3},
		{bits(1e15), 1000000000000000},
		{bits(1<<53 - 1), 1<<53 - 1},
		{bits(1<<53 + 2), 1<<53 + 2},
		{bits(1<<63 - 1024), 1<<63 - 1024},
		{bits(-1<<63 + 1024), -1<<63 + 1024},
		{bits(-1 << 63), math.MinInt64},
	} {
		if got, ok := Int(c.f); !ok || got != c.want {
			t.Errorf("1.4: Int(%#x) is %d, %v, not %d", c.f, got, ok, c.want)
		}
	}
}

func TestIntOfNoWholeNumber(t *testing.T) {
	wrong := []uint64{bits(0.5), bits(-0.5), bits(1.5), one - 1, one + 1, 1, sign | 1, normal, bits(-2.25),
		bits(1<<52 - 0.5), bits(-1<<52 + 0.5), bits(1 << 63), bits(-1<<63 - 2048), bits(1 << 64), bits(-1 << 64),
		bits(1e300), greatest, sign | greatest, inf, sign | inf}
	for _, f := range append(wrong, nans()...) {
		if got, ok := Int(f); ok || got != 0 {
			t.Errorf("1.4: Int(%#x) is %d, %v", f, got, ok)
		}
	}
}

func TestIntByNumbersOfAnyLength(t *testing.T) {
	r := rand.New(rand.NewSource(16))
	all := mixed(r, 2000)
	for range 5000 {
		all = append(all, bits(float64(int64(r.Uint64())>>r.Intn(64))), bits(float64(r.Intn(4001)-2000)/4))
	}
	for _, f := range all {
		var want int64
		whole := false
		if f&inf != inf {
			n, exact := big.NewFloat(math.Float64frombits(f)).Int(nil)
			if exact == big.Exact && n.IsInt64() {
				want, whole = n.Int64(), true
			}
		}
		if got, ok := Int(f); got != want || ok != whole {
			t.Fatalf("1.4: Int(%#x) is %d, %v, not %d, %v", f, got, ok, want, whole)
		}
	}
}

func TestIntOfOf(t *testing.T) {
	r := rand.New(rand.NewSource(17))
	for range 5000 {
		n := int64(r.Uint64()) >> (11 + r.Intn(53))
		if got, ok := Int(Of(n)); !ok || got != n {
			t.Fatalf("1.4: Int(Of(%d)) is %d, %v", n, got, ok)
		}
	}
}

// 1.5

func TestBackOfOrderIsCanon(t *testing.T) {
	r := rand.New(rand.NewSource(18))
	for _, f := range mixed(r, 3000) {
		if got, ok := Back(Order(f)); !ok || got != Canon(f) {
			t.Fatalf("1.5: Back(Order(%#x)) is %#x, %v", f, got, ok)
		}
	}
}

func TestCmpIsAnOrder(t *testing.T) {
	r := rand.New(rand.NewSource(19))
	all := mixed(r, 8)
	for _, a := range all {
		if Cmp(a, a) != 0 {
			t.Fatalf("1.5: Cmp(%#x) with itself is %d", a, Cmp(a, a))
		}
		for _, b := range all {
			if Cmp(a, b) != -Cmp(b, a) || (Cmp(a, b) == 0) != (Canon(a) == Canon(b)) {
				t.Fatalf("1.5: Cmp(%#x, %#x) is %d, the other way %d", a, b, Cmp(a, b), Cmp(b, a))
			}
			for _, c := range all {
				if Cmp(a, b) <= 0 && Cmp(b, c) <= 0 && Cmp(a, c) > 0 {
					t.Fatalf("1.5: Cmp does not lead on: %#x %#x %#x", a, b, c)
				}
			}
		}
	}
}

func TestCmpIsThatOfNumbers(t *testing.T) {
	r := rand.New(rand.NewSource(20))
	all := mixed(r, 100)
	for _, a := range all {
		for _, b := range all {
			x, y := math.Float64frombits(a), math.Float64frombits(b)
			if math.IsNaN(x) || math.IsNaN(y) {
				continue
			}
			if got := Cmp(a, b); (got < 0) != (x < y) || (got == 0) != (x == y) || (got > 0) != (x > y) {
				t.Fatalf("1.5: Cmp(%#x, %#x) is %d", a, b, got)
			}
		}
	}
}

func TestSumEitherWay(t *testing.T) {
	r := rand.New(rand.NewSource(21))
	all := mixed(r, 100)
	for _, a := range all {
		for _, b := range all {
			if Sum(a, b) != Sum(b, a) || Canon(Sum(a, b)) != Sum(a, b) {
				t.Fatalf("1.5: Sum of %#x and %#x: %#x, %#x", a, b, Sum(a, b), Sum(b, a))
			}
		}
	}
}
