package value

import (
	"bytes"
	"cmp"
	"encoding/binary"
	"math"
	"math/rand"
	"strings"
	"testing"

	"falsework/api"
	"falsework/flo"
)

const (
	oneFloat = 0x3ff0000000000000
	inf      = 0x7ff0000000000000
	oneNaN   = 0x7ff8000000000000
	minus    = 1 << 63
)

var null = api.Value{}

func boolean(n int64) api.Value   { return api.Value{Kind: api.KBool, N: n} }
func integer(n int64) api.Value   { return api.Value{Kind: api.KInt, N: n} }
func float(f uint64) api.Value    { return api.Value{Kind: api.KFloat, F: f} }
func number(x float64) api.Value  { return float(math.Float64bits(x)) }
func binaryOf(s string) api.Value { return api.Value{Kind: api.KBytes, S: s} }
func text(s string) api.Value     { return api.Value{Kind: api.KText, S: s} }
func long(c string) string        { return strings.Repeat(c, api.MaxText) }
func beyond(c string) string      { return strings.Repeat(c, api.MaxText+1) }

// risingTexts are texts byte by byte, the shorter one first.
func risingTexts() []string {
	return []string{"", "\x00", "\x00\x00", "\x00\x00\x00", long("\x00"), "\x00\x00\x01", "\x00\x00\xff",
		"\x00\x01", "\x00\x01\x00", "\x00\x01\x01", "\x00\x02", "\x00a", "\x00\xfe", "\x00\xff", "\x00\xff\x00", "\x00\xff\x01", "\x00\xff\xff",
		"\x01", "\x01\x00", "\x01\x00\x01", "\x01\x01", "\x01\xff", "\x02", "a", "a\x00", "a\x00\x00", "a\x00\x01", "a\x00b", "a\x00\xff", "a\x01", "aa", long("a"), "ab", "b",
		"\xc3\xa4", "\xfe", "\xff", "\xff\x00", "\xff\x01", "\xff\xff", long("\xff")}
}

// risingInts are the ends of int64, of its bytes, and numbers between.
func risingInts() []int64 {
	return []int64{math.MinInt64, math.MinInt64 + 1, -1 << 32, -65537, -257, -256, -255, -2, -1, 0, 1, 2, 127, 128, 255, 256, 257, 65535, 1 << 31, 1 << 32, 1 << 62, math.MaxInt64 - 1, math.MaxInt64}
}

// risingFloats are canonical, the NaN above all.
func risingFloats() []uint64 {
	up := []uint64{1, 2, 0x000fffffffffffff, 0x0010000000000000, math.Float64bits(0.5), oneFloat, oneFloat + 1, math.Float64bits(1e9), 0x7fefffffffffffff, inf}
	var all []uint64
	for i := len(up) - 1; i >= 0; i-- {
		all = append(all, minus|up[i])
	}
	return append(append(append(all, 0), up...), oneNaN)
}

// rising are values of all kinds, each above the one ahead of it.
func rising() []api.Value {
	all := []api.Value{null, boolean(0), boolean(1)}
	for _, n := range risingInts() {
		all = append(all, integer(n))
	}
	for _, f := range risingFloats() {
		all = append(all, float(f))
	}
	for _, s := range risingTexts() {
		all = append(all, binaryOf(s))
	}
	for _, s := range risingTexts() {
		all = append(all, text(s))
	}
	return all
}

// wrong are values that may not be.
func wrong() []api.Value {
	all := []api.Value{{Kind: -1}, {Kind: 6}, {Kind: 7}, {Kind: math.MinInt}, {Kind: math.MaxInt}, {Kind: -1, S: "a"}, {Kind: 6, N: 1},
		{N: 1}, {N: -1}, {F: 1}, {F: minus}, {S: "a"}, {S: "\x00"},
		boolean(2), boolean(-1), boolean(math.MinInt64), boolean(256), boolean(257), boolean(1 << 32),
		{Kind: api.KBool, F: 1}, {Kind: api.KBool, N: 1, F: oneFloat}, {Kind: api.KBool, S: "a"}, {Kind: api.KBool, N: 1, S: "\x00"},
		{Kind: api.KInt, F: 1}, {Kind: api.KInt, N: 5, F: minus}, {Kind: api.KInt, S: "a"}, {Kind: api.KInt, N: 5, S: "\x00"},
		float(minus), float(oneNaN + 1), float(oneNaN | minus), float(inf + 1), float(inf | minus + 1), float(math.MaxUint64),
		{Kind: api.KFloat, N: 1}, {Kind: api.KFloat, F: oneFloat, N: -1}, {Kind: api.KFloat, S: "a"}, {Kind: api.KFloat, F: oneFloat, S: "\x00"}}
	for _, k := range []int{api.KBytes, api.KText} {
		all = append(all, api.Value{Kind: k, N: 1}, api.Value{Kind: k, S: "a", N: 1}, api.Value{Kind: k, F: 1}, api.Value{Kind: k, S: "a", F: minus},
			api.Value{Kind: k, S: beyond("a")}, api.Value{Kind: k, S: beyond("\x00")}, api.Value{Kind: k, S: strings.Repeat("a", 1<<16)})
	}
	return all
}

// some is any value that may be, with many of the bytes 00, 01 and ff in texts.
func some(r *rand.Rand) api.Value {
	switch r.Intn(8) {
	case 0:
		return null
	case 1:
		return boolean(int64(r.Intn(2)))
	case 2:
		return integer(int64(r.Uint64()) >> r.Intn(64))
	case 3:
		return float(flo.Canon(r.Uint64()))
	case 4:
		return number(float64(r.Intn(200)) / 8)
	case 5:
		return binaryOf(someBytes(r, r.Intn(api.MaxText+1)))
	case 6:
		return text(someBytes(r, r.Intn(5)))
	default:
		return text(someBytes(r, api.MaxText-r.Intn(3)))
	}
}

func someBytes(r *rand.Rand, n int) string {
	const common = "\x00\x00\x01\xff\xff\x02ab"
	b := make([]byte, n)
	for i := range b {
		b[i] = common[r.Intn(len(common))]
		if r.Intn(4) == 0 {
			b[i] = byte(r.Intn(256))
		}
	}
	return string(b)
}

// written is what the document says that a value's bytes are, by other means than the program's.
func written(v api.Value) string {
	switch v.Kind {
	case api.KNull:
		return "\x01"
	case api.KBool:
		return []string{"\x02", "\x03"}[v.N]
	case api.KInt:
		return "\x04" + string(binary.BigEndian.AppendUint64(nil, uint64(v.N)^minus))
	case api.KFloat:
		return "\x05" + string(binary.BigEndian.AppendUint64(nil, flo.Order(v.F)))
	case api.KBytes:
		return "\x06" + strings.ReplaceAll(v.S, "\x00", "\x00\xff") + "\x00\x01"
	default:
		return "\x07" + strings.ReplaceAll(v.S, "\x00", "\x00\xff") + "\x00\x01"
	}
}

// readBack is the value whose bytes s are, all of them; each try is held against what would have been written.
func readBack(s string) (api.Value, bool) {
	tries := []api.Value{null, boolean(0), boolean(1)}
	if len(s) == 9 {
		n := binary.BigEndian.Uint64([]byte(s[1:]))
		f, _ := flo.Back(n)
		tries = append(tries, integer(int64(n^minus)), float(f))
	}
	if len(s) >= 3 {
		body := strings.ReplaceAll(s[1:len(s)-2], "\x00\xff", "\x00")
		if len(body) <= api.MaxText {
			tries = append(tries, binaryOf(body), text(body))
		}
	}
	for _, v := range tries {
		if written(v) == s {
			return v, true
		}
	}
	return null, false
}

// readFirst is what Get must tell: of all beginnings of s the one that is a value's.
func readFirst(s string) (api.Value, int, api.Errno) {
	for n := range len(s) + 1 {
		if v, ok := readBack(s[:n]); ok {
			return v, n, api.OK
		}
	}
	return null, 0, api.ErrForm
}

// put is Put of a value that may be.
func put(t *testing.T, v api.Value) string {
	t.Helper()
	s, e := Put(v)
	if e != api.OK {
		t.Fatalf("2.2: Put(%v): error %d", v, e)
	}
	return s
}

func holdGet(t *testing.T, s string) {
	t.Helper()
	v, n, e := Get(s)
	wantV, wantN, wantE := readFirst(s)
	if v != wantV || n != wantN || e != wantE {
		t.Errorf("2.3: Get(%x): %v %d %d, not %v %d %d", s, v, n, e, wantV, wantN, wantE)
	}
}

func refuses(t *testing.T, s string) {
	t.Helper()
	if v, n, e := Get(s); v != null || n != 0 || e != api.ErrForm {
		t.Errorf("2.3: Get(%x): %v %d %d", s, v, n, e)
	}
}

// 2.1

func TestMay(t *testing.T) {
	for _, v := range rising() {
		if !May(v) {
			t.Errorf("2.1: %v may not be", v)
		}
	}
}

func TestMayNot(t *testing.T) {
	for _, v := range wrong() {
		if May(v) {
			t.Errorf("2.1: %v may be", v)
		}
	}
}

func TestMayOfKindsAtBothEnds(t *testing.T) {
	for k := -3; k < 12; k++ {
		if May(api.Value{Kind: k}) != (k >= 0 && k <= 5) {
			t.Errorf("2.1: kind %d", k)
		}
	}
}

func TestMayOfLengths(t *testing.T) {
	for n := range 3 * api.MaxText {
		for _, k := range []int{api.KBytes, api.KText} {
			// A byte 00 counts once, although it is written as two.
			for _, c := range []string{"a", "\x00", "\xff"} {
				v := api.Value{Kind: k, S: strings.Repeat(c, n)}
				if May(v) != (n <= 40) {
					t.Errorf("2.1: kind %d, %d bytes: %t", k, n, May(v))
				}
			}
		}
	}
}

func TestMayOfAnyFloat(t *testing.T) {
	r := rand.New(rand.NewSource(1))
	for range 5000 {
		f := r.Uint64()
		if r.Intn(2) == 0 {
			f |= inf
		}
		x := math.Float64frombits(f)
		want := f == oneNaN || !math.IsNaN(x) && f != minus
		if May(float(f)) != want {
			t.Errorf("2.1: float %#x: %t", f, !want)
		}
	}
}

// 2.2

func TestPutExamples(t *testing.T) {
	for _, c := range []struct {
		v    api.Value
		want string
	}{
		{integer(1), "\x04\x80\x00\x00\x00\x00\x00\x00\x01"}, {text("a"), "\x07\x61\x00\x01"},
		{null, "\x01"}, {boolean(0), "\x02"}, {boolean(1), "\x03"},
		{integer(0), "\x04\x80\x00\x00\x00\x00\x00\x00\x00"}, {integer(-1), "\x04\x7f\xff\xff\xff\xff\xff\xff\xff"},
		{integer(0x0102030405060708), "\x04\x81\x02\x03\x04\x05\x06\x07\x08"},
		{integer(math.MinInt64), "\x04\x00\x00\x00\x00\x00\x00\x00\x00"}, {integer(math.MaxInt64), "\x04\xff\xff\xff\xff\xff\xff\xff\xff"},
		{float(0), "\x05\x80\x00\x00\x00\x00\x00\x00\x00"}, {float(oneFloat), "\x05\xbf\xf0\x00\x00\x00\x00\x00\x00"},
		{number(-1), "\x05\x40\x0f\xff\xff\xff\xff\xff\xff"}, {float(oneNaN), "\x05\xff\xf8\x00\x00\x00\x00\x00\x00"},
		{float(inf), "\x05\xff\xf0\x00\x00\x00\x00\x00\x00"}, {float(inf | minus), "\x05\x00\x0f\xff\xff\xff\xff\xff\xff"},
		{binaryOf(""), "\x06\x00\x01"}, {text(""), "\x07\x00\x01"}, {binaryOf("a"), "\x06a\x00\x01"},
		{text("\x00"), "\x07\x00\xff\x00\x01"}, {text("\x01"), "\x07\x01\x00\x01"}, {text("\xff"), "\x07\xff\x00\x01"},
		{binaryOf("\x00\xff\x01\x00\x00"), "\x06\x00\xff\xff\x01\x00\xff\x00\xff\x00\x01"},
		{text("\x00\x01"), "\x07\x00\xff\x01\x00\x01"}, {text("\xc3\xa4\xfe"), "\x07\xc3\xa4\xfe\x00\x01"},
		{text(long("s")), "\x07" + long("s") + "\x00\x01"}, {binaryOf(long("\x00")), "\x06" + long("\x00\xff") + "\x00\x01"},
	} {
		if got := put(t, c.v); got != c.want {
			t.Errorf("2.2: Put(%v): %x, not %x", c.v, got, c.want)
		}
	}
}

func TestPutRefuses(t *testing.T) {
	for _, v := range wrong() {
		if s, e := Put(v); s != "" || e != api.ErrArg {
			t.Errorf("2.2: Put(%v): %x %d", v, s, e)
		}
	}
}

func TestPutOfAnyValue(t *testing.T) {
	r := rand.New(rand.NewSource(2))
	for _, v := range rising() {
		if got := put(t, v); got != written(v) {
			t.Errorf("2.2: Put(%v): %x, not %x", v, got, written(v))
		}
	}
	for range 5000 {
		v := some(r)
		if got := put(t, v); got != written(v) {
			t.Errorf("2.2: Put(%v): %x, not %x", v, got, written(v))
		}
	}
}

// 2.3

func TestGetReadsWhatPutWrites(t *testing.T) {
	for _, v := range rising() {
		s := put(t, v)
		for _, behind := range []string{"", "\x00", "\x01", "\xff", "\x00\x01", "\x00\xff", "\x07rest", beyond("a"), s, strings.Repeat("a", 1<<16)} {
			got, n, e := Get(s + behind)
			if e != api.OK || got != v || n != len(s) {
				t.Errorf("2.3: Get(%x and %d more): %v %d %d", s, len(behind), got, n, e)
			}
		}
	}
}

func TestGetOfBytesThatBreakOff(t *testing.T) {
	for _, v := range rising() {
		s := put(t, v)
		for k := range len(s) {
			refuses(t, s[:k])
		}
	}
}

func TestGetOfHeads(t *testing.T) {
	for c := range 256 {
		// Behind each of the kinds' first bytes stands what any of them could go on with.
		for _, behind := range []string{"", "\x80\x00\x00\x00\x00\x00\x00\x01", "\x80\x00\x01\x00\x00\x00\x00\x00\x00", "a\x00\x01"} {
			s := string([]byte{byte(c)}) + behind
			holdGet(t, s)
			if c == 0 || c > 7 {
				refuses(t, s)
			}
		}
	}
}

func TestGetOfZeroAndAnyByte(t *testing.T) {
	for c := range 256 {
		for _, head := range []string{"\x06", "\x07", "\x06a", "\x07\x00\xff"} {
			s := head + "\x00" + string([]byte{byte(c)})
			holdGet(t, s)
			holdGet(t, s+"\x00\x01")
			if c != 0x01 && c != 0xff {
				refuses(t, s)
				refuses(t, s+"\x00\x01")
			}
		}
	}
}

func TestGetOfPlacesThatAreNoFloats(t *testing.T) {
	// The places of the nought with a sign, of NaNs beside the one, of either sign, and both ends of all places.
	for _, o := range []uint64{minus - 1, 0, 1, 0x000ffffffffffffe, 0x0007ffffffffffff, 0xfff0000000000001, 0xfff7ffffffffffff, 0xfff8000000000001, math.MaxUint64} {
		refuses(t, "\x05"+string(binary.BigEndian.AppendUint64(nil, o)))
	}
}

func TestGetOfTextsThatAreTooLong(t *testing.T) {
	for _, head := range []string{"\x06", "\x07"} {
		for _, c := range []string{"a", "\xff", "\x01", "\x00\xff"} {
			if _, n, e := Get(head + long(c) + "\x00\x01"); e != api.OK || n != 3+len(long(c)) {
				t.Errorf("2.3: a text of MaxText bytes: %d %d", n, e)
			}
			refuses(t, head+beyond(c)+"\x00\x01")
			refuses(t, head+long(c)+"\x00\xff\x00\x01")
			refuses(t, head+strings.Repeat(c, 1<<16)+"\x00\x01")
			refuses(t, head+long(c))
			refuses(t, head+beyond(c))
		}
	}
}

func TestGetOfAnyBytes(t *testing.T) {
	r := rand.New(rand.NewSource(3))
	for range 20000 {
		holdGet(t, string([]byte{byte(r.Intn(9))})+someBytes(r, r.Intn(60)))
	}
}

func TestGetOfBytesThatWereTurned(t *testing.T) {
	r := rand.New(rand.NewSource(4))
	for range 20000 {
		b := []byte(put(t, some(r)) + put(t, some(r)))
		b[r.Intn(len(b))] = []byte{0x00, 0x01, 0xff, byte(r.Intn(256))}[r.Intn(4)]
		holdGet(t, string(b))
	}
}

func TestGetOfOneBehindTheOther(t *testing.T) {
	r := rand.New(rand.NewSource(5))
	for range 2000 {
		a, b := some(r), some(r)
		s := put(t, a) + put(t, b)
		x, n, e := Get(s)
		if e != api.OK || x != a {
			t.Fatalf("2.3: Get(%x): %v %d", s, x, e)
		}
		y, m, e := Get(s[n:])
		if e != api.OK || y != b || n+m != len(s) {
			t.Fatalf("2.3: Get(%x): %v %d", s[n:], y, e)
		}
	}
}

// 2.4

func TestCmp(t *testing.T) {
	all := rising()
	for i, a := range all {
		for k, b := range all {
			if got := Cmp(a, b); got != cmp.Compare(i, k) {
				t.Errorf("2.4: Cmp(%v, %v): %d", a, b, got)
			}
		}
	}
}

func TestCmpOfWhatMayNotBe(t *testing.T) {
	for _, w := range wrong() {
		for _, v := range append(rising(), wrong()...) {
			if Cmp(w, v) != 0 || Cmp(v, w) != 0 {
				t.Errorf("2.4: Cmp of %v and %v: %d %d", w, v, Cmp(w, v), Cmp(v, w))
			}
		}
	}
}

func TestCmpIsThatOfBytes(t *testing.T) {
	r := rand.New(rand.NewSource(6))
	for range 20000 {
		a, b := some(r), some(r)
		if want := bytes.Compare([]byte(written(a)), []byte(written(b))); Cmp(a, b) != want {
			t.Errorf("2.4: Cmp(%v, %v): %d", a, b, Cmp(a, b))
		}
	}
}

// 2.5

func TestNoneBeginsTheOther(t *testing.T) {
	r := rand.New(rand.NewSource(7))
	all := rising()
	for range 500 {
		all = append(all, some(r))
	}
	for _, a := range all {
		for _, b := range all {
			if a != b && strings.HasPrefix(put(t, a), put(t, b)) {
				t.Errorf("2.5: the bytes of %v begin with those of %v", a, b)
			}
		}
	}
}

func TestNullIsBelowAll(t *testing.T) {
	for _, v := range rising()[1:] {
		if Cmp(null, v) != -1 || Cmp(v, null) != 1 {
			t.Errorf("2.5: null and %v: %d", v, Cmp(null, v))
		}
	}
}

func TestWithinAKindValuesKeepTheirOrder(t *testing.T) {
	r := rand.New(rand.NewSource(8))
	for range 20000 {
		n, m := int64(r.Uint64())>>r.Intn(64), int64(r.Uint64())>>r.Intn(64)
		if Cmp(integer(n), integer(m)) != cmp.Compare(n, m) {
			t.Errorf("2.5: ints %d and %d", n, m)
		}
		f, g := r.NormFloat64(), math.Float64frombits(flo.Canon(r.Uint64()))
		if !math.IsNaN(g) && Cmp(number(f), number(g)) != cmp.Compare(f, g) {
			t.Errorf("2.5: floats %g and %g", f, g)
		}
		s, u := someBytes(r, r.Intn(4)), someBytes(r, r.Intn(4))
		if Cmp(text(s), text(u)) != strings.Compare(s, u) || Cmp(binaryOf(s), binaryOf(u)) != strings.Compare(s, u) {
			t.Errorf("2.5: texts %x and %x", s, u)
		}
		if u != "" && Cmp(text(s), text(s+u)) != -1 {
			t.Errorf("2.5: the text %x and one that it begins", s)
		}
	}
}

// The rules of all calls

func TestTheSameCallsTellTheSame(t *testing.T) {
	for _, v := range append(rising(), wrong()...) {
		s, e := Put(v)
		if again, wrongly := Put(v); again != s || wrongly != e || May(v) != (e == api.OK) {
			t.Errorf("R1, R5: Put(%v): %x %d, then %x %d", v, s, e, again, wrongly)
		}
	}
}
