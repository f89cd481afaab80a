package tuple

import (
	"cmp"
	"math"
	"math/rand"
	"slices"
	"strings"
	"testing"

	"falsework/api"
	"falsework/flo"
	"falsework/value"
)

var null = api.Value{}

func boolean(n int64) api.Value   { return api.Value{Kind: api.KBool, N: n} }
func integer(n int64) api.Value   { return api.Value{Kind: api.KInt, N: n} }
func float(x float64) api.Value   { return api.Value{Kind: api.KFloat, F: math.Float64bits(x)} }
func binaryOf(s string) api.Value { return api.Value{Kind: api.KBytes, S: s} }
func text(s string) api.Value     { return api.Value{Kind: api.KText, S: s} }

// list is a tuple of the values.
func list(vs ...api.Value) []api.Value { return vs }

// rising are values of all kinds, each above the one ahead of it.
func rising() []api.Value {
	return list(null, boolean(0), boolean(1),
		integer(math.MinInt64), integer(-1), integer(0), integer(1), integer(255), integer(256), integer(math.MaxInt64),
		float(math.Inf(-1)), float(-1), float(0), float(0.5), float(1), float(math.Inf(1)), api.Value{Kind: api.KFloat, F: 0x7ff8000000000000},
		binaryOf(""), binaryOf("\x00"), binaryOf("\x00\xff"), binaryOf("a"), binaryOf("\xff"), binaryOf("\xff\xff"),
		text(""), text("\x00"), text("\x00\x00"), text("\x00\x01"), text("\x00\xff"), text("\x01"), text("a"), text("a\x00"), text("a\x01"), text("ab"), text("b"), text(strings.Repeat("\xff", api.MaxText)))
}

// wrong are values that may not be.
func wrong() []api.Value {
	return list(api.Value{Kind: -1}, api.Value{Kind: 6}, api.Value{Kind: math.MaxInt}, api.Value{N: 1}, api.Value{S: "a"}, boolean(2), boolean(-1),
		api.Value{Kind: api.KInt, F: 1}, api.Value{Kind: api.KInt, S: "a"}, float(math.Copysign(0, -1)), api.Value{Kind: api.KFloat, F: 0x7ff8000000000001},
		binaryOf(strings.Repeat("a", api.MaxText+1)), text(strings.Repeat("\x00", api.MaxText+1)), api.Value{Kind: api.KText, N: 1})
}

// some is any value that may be, often one of a few, so that tuples have values in common.
func some(r *rand.Rand) api.Value {
	all := rising()
	switch r.Intn(6) {
	case 0:
		return integer(int64(r.Uint64()) >> r.Intn(64))
	case 1:
		return api.Value{Kind: api.KFloat, F: flo.Canon(r.Uint64())}
	case 2:
		return text(someBytes(r, r.Intn(api.MaxText+1)))
	case 3:
		return binaryOf(someBytes(r, r.Intn(4)))
	default:
		return all[r.Intn(len(all))]
	}
}

func someBytes(r *rand.Rand, n int) string {
	const common = "\x00\x00\x01\xff\xff\x02ab"
	b := make([]byte, n)
	for i := range b {
		b[i] = common[r.Intn(len(common))]
	}
	return string(b)
}

// someList is any tuple of n values.
func someList(r *rand.Rand, n int) []api.Value {
	vs := make([]api.Value, n)
	for i := range vs {
		vs[i] = some(r)
	}
	return vs
}

// joined is layer 2's bytes of values, one behind the other.
func joined(t *testing.T, vs []api.Value) string {
	t.Helper()
	all := ""
	for _, v := range vs {
		s, e := value.Put(v)
		if e != api.OK {
			t.Fatalf("2.2: Put(%v): error %d", v, e)
		}
		all += s
	}
	return all
}

// put is Put of a tuple that may be.
func put(t *testing.T, vs []api.Value) string {
	t.Helper()
	s, e := Put(vs)
	if e != api.OK {
		t.Fatalf("3.1: Put(%v): error %d", vs, e)
	}
	return s
}

func holdPut(t *testing.T, vs []api.Value, want string, wantE api.Errno) {
	t.Helper()
	if s, e := Put(vs); s != want || e != wantE {
		t.Errorf("3.1: Put(%v): %x %d, not %x %d", vs, s, e, want, wantE)
	}
}

func reads(t *testing.T, s string, want []api.Value) {
	t.Helper()
	if vs, e := Get(s); e != api.OK || !slices.Equal(vs, want) {
		t.Errorf("3.2: Get(%x): %v %d, not %v", s, vs, e, want)
	}
}

func refuses(t *testing.T, s string) {
	t.Helper()
	if vs, e := Get(s); e != api.ErrForm || vs != nil {
		t.Errorf("3.2: Get(%x): %v %d", s, vs, e)
	}
}

// 3.1

// examples are tuples with their bytes.
func examples() []struct {
	vs []api.Value
	s  string
} {
	return []struct {
		vs []api.Value
		s  string
	}{
		{nil, ""}, {list(), ""}, {list(null), "\x01"}, {list(boolean(1), boolean(0)), "\x03\x02"},
		{list(integer(1)), "\x04\x80\x00\x00\x00\x00\x00\x00\x01"},
		{list(integer(1), integer(5)), "\x04\x80\x00\x00\x00\x00\x00\x00\x01\x04\x80\x00\x00\x00\x00\x00\x00\x05"},
		{list(integer(1), null), "\x04\x80\x00\x00\x00\x00\x00\x00\x01\x01"}, {list(null, integer(-1)), "\x01\x04\x7f\xff\xff\xff\xff\xff\xff\xff"},
		{list(text("a")), "\x07\x61\x00\x01"}, {list(text("a"), text("")), "\x07\x61\x00\x01\x07\x00\x01"}, {list(text(""), text("a")), "\x07\x00\x01\x07\x61\x00\x01"},
		{list(binaryOf("\x00"), null, float(1)), "\x06\x00\xff\x00\x01\x01\x05\xbf\xf0\x00\x00\x00\x00\x00\x00"},
		{list(text("\x01\x00\x01"), text("\xff")), "\x07\x01\x00\xff\x01\x00\x01\x07\xff\x00\x01"},
		{make([]api.Value, 16), strings.Repeat("\x01", 16)},
	}
}

func TestPutExamples(t *testing.T) {
	for _, c := range examples() {
		holdPut(t, c.vs, c.s, api.OK)
	}
}

func TestPutOfAsManyValues(t *testing.T) {
	for n := range 60 {
		for _, v := range rising() {
			vs := slices.Repeat(list(v), n)
			if n <= 16 {
				holdPut(t, vs, joined(t, vs), api.OK)
			} else {
				holdPut(t, vs, "", api.ErrLong)
			}
		}
	}
	holdPut(t, make([]api.Value, 1<<16), "", api.ErrLong)
	holdPut(t, make([]api.Value, 1<<16)[:16], strings.Repeat("\x01", 16), api.OK)
}

func TestPutOfValuesThatMayNotBe(t *testing.T) {
	for _, w := range wrong() {
		for n := 1; n <= 20; n++ {
			for i := range n {
				vs := slices.Repeat(list(integer(1)), n)
				vs[i] = w
				want := api.ErrArg
				if n > 16 {
					want = api.ErrLong
				}
				holdPut(t, vs, "", want)
			}
		}
		holdPut(t, slices.Repeat(list(w), 16), "", api.ErrArg)
		holdPut(t, slices.Repeat(list(w), 17), "", api.ErrLong)
	}
}

func TestPutOfAnyTuple(t *testing.T) {
	r := rand.New(rand.NewSource(1))
	for range 5000 {
		vs := someList(r, r.Intn(17))
		holdPut(t, vs, joined(t, vs), api.OK)
	}
}

// 3.2

func TestGetExamples(t *testing.T) {
	for _, c := range examples() {
		reads(t, c.s, c.vs)
	}
}

func TestGetReadsWhatPutWrites(t *testing.T) {
	r := rand.New(rand.NewSource(2))
	for n := range 17 {
		for range 200 {
			vs := someList(r, n)
			reads(t, put(t, vs), vs)
		}
	}
}

func TestGetOfBytesThatBreakOff(t *testing.T) {
	r := rand.New(rand.NewSource(3))
	for range 300 {
		vs := someList(r, 1+r.Intn(16))
		s := put(t, vs)
		whole := map[int]int{}
		for n := range len(vs) + 1 {
			whole[len(joined(t, vs[:n]))] = n
		}
		for k := range len(s) + 1 {
			if n, ok := whole[k]; ok {
				reads(t, s[:k], vs[:n])
			} else {
				refuses(t, s[:k])
			}
		}
	}
}

// noValues are bytes with which no value begins.
func noValues() []string {
	return []string{"\x00", "\x08", "\xff", "x", "\x00\x01", "\x04", "\x04\x80", "\x04\x80\x00\x00\x00\x00\x00\x00", "\x05\x80\x00\x00\x00\x00\x00\x00",
		"\x05\x7f\xff\xff\xff\xff\xff\xff\xff", "\x06", "\x07", "\x07a", "\x07a\x00", "\x07\x00\x02", "\x07\x00\xff", "\x07" + strings.Repeat("a", api.MaxText+1) + "\x00\x01"}
}

func TestGetOfSomethingBehind(t *testing.T) {
	for _, no := range noValues() {
		refuses(t, no)
		// What no value begins with is none either with a value behind it.
		if no == "\x00" || no == "\x08" || no == "\xff" || no == "x" {
			refuses(t, no+"\x01")
		}
		for n := range 18 {
			refuses(t, strings.Repeat("\x01", n)+no)
			refuses(t, strings.Repeat("\x07a\x00\x01", n)+no)
		}
		for _, v := range rising() {
			refuses(t, put(t, list(v))+no)
		}
	}
}

func TestGetOfAsManyValues(t *testing.T) {
	for n := range 60 {
		for _, v := range rising() {
			vs := slices.Repeat(list(v), n)
			if n <= 16 {
				reads(t, joined(t, vs), vs)
			} else {
				refuses(t, joined(t, vs))
			}
		}
	}
	refuses(t, strings.Repeat("\x01", 1<<20))
	refuses(t, strings.Repeat("\xff", 1<<20))
	refuses(t, "\x07"+strings.Repeat("\x01", 1<<20))
}

// fewBytes are the bytes of which short texts are made here.
const fewBytes = "\x00\x01\x02\x03\x04\x06\x07\xff"

// allTexts are all texts of some bytes, as long as most at the most.
func allTexts(of string, most int) []string {
	all := []string{""}
	for from := 0; most > 0; most-- {
		to := len(all)
		for _, s := range all[from:to] {
			for i := range len(of) {
				all = append(all, s+of[i:i+1])
			}
		}
		from = to
	}
	return all
}

// shortTuples are all tuples with as many bytes at the most, made of few, by their bytes.
func shortTuples(t *testing.T, most int) map[string][]api.Value {
	all := map[string][]api.Value{"": nil}
	ones := list(null, boolean(0), boolean(1))
	for _, s := range allTexts(fewBytes, most-3) {
		ones = append(ones, binaryOf(s), text(s))
	}
	last := []string{""}
	for range most {
		var next []string
		for _, s := range last {
			for _, v := range ones {
				if longer := s + joined(t, list(v)); len(longer) <= most {
					all[longer] = append(slices.Clone(all[s]), v)
					next = append(next, longer)
				}
			}
		}
		last = next
	}
	return all
}

func TestGetOfAllShortBytes(t *testing.T) {
	const most = 5
	all := shortTuples(t, most)
	for _, s := range allTexts(fewBytes, most) {
		if vs, ok := all[s]; ok {
			reads(t, s, vs)
		} else {
			refuses(t, s)
		}
	}
}

func TestGetOfAnyBytes(t *testing.T) {
	r := rand.New(rand.NewSource(4))
	for range 20000 {
		b := []byte(put(t, someList(r, 1+r.Intn(4))))
		b[r.Intn(len(b))] = []byte{0x00, 0x01, 0xff, byte(r.Intn(256))}[r.Intn(4)]
		s := string(b)
		vs, e := Get(s)
		switch {
		case e == api.OK && put(t, vs) != s:
			t.Errorf("3.2: Get(%x): %v, whose bytes are %x", s, vs, put(t, vs))
		case e != api.OK:
			refuses(t, s)
		}
	}
}

// 3.3

func TestAfterExamples(t *testing.T) {
	for _, c := range [][2]string{
		{"\x61\xff", "\x62"}, {"a", "b"}, {"ab", "ac"}, {"\x00", "\x01"}, {"\x00\x00", "\x00\x01"}, {"\xfe", "\xff"}, {"\xfe\xff", "\xff"},
		{"a\xff\xff", "b"}, {"a\xffb", "a\xffc"}, {"\xffa", "\xffb"}, {"\xff\xff\x00", "\xff\xff\x01"}, {"\xff\x00\xff", "\xff\x01"},
		{"a\x00", "a\x01"}, {"a\x00\xff", "a\x01"}, {"a\x00\xff\x00\x01", "a\x00\xff\x00\x02"}, {"\x00\xff\xff", "\x01"}, {"\xff\xfe\xff\xff", "\xff\xff"},
		// Bytes that are no runes are not taken for one another.
		{"a\x80\xff", "a\x81"}, {"a\xfe\xff", "a\xff"}, {"\xc3\xa4\xff", "\xc3\xa5"}, {"\xc3\xa4", "\xc3\xa5"}, {"\x7f", "\x80"}, {"\xef\xbf\xbd\xff", "\xef\xbf\xbe"},
		{"\x04\x80\x00\x00\x00\x00\x00\x00\xff", "\x04\x80\x00\x00\x00\x00\x00\x01"},
		{"a" + strings.Repeat("\xff", 1<<20), "b"}, {strings.Repeat("\xff", 1<<20) + "a", strings.Repeat("\xff", 1<<20) + "b"},
	} {
		if got, ok := After(c[0]); !ok || got != c[1] {
			t.Errorf("3.3: After(%x): %x %t, not %x", c[0], got, ok, c[1])
		}
	}
}

func TestAfterOfWhatHasNone(t *testing.T) {
	for n := range 70 {
		if got, ok := After(strings.Repeat("\xff", n)); ok || got != "" {
			t.Errorf("3.3: After of %d bytes ff: %x %t", n, got, ok)
		}
	}
	if got, ok := After(strings.Repeat("\xff", 1<<20)); ok || got != "" {
		t.Errorf("3.3: After of very many bytes ff: %d bytes, %t", len(got), ok)
	}
}

func TestAfterOfEachLastByte(t *testing.T) {
	for c := range 255 {
		for _, ahead := range []string{"", "a", "\xff", "\x00\xff"} {
			for n := range 4 {
				s := ahead + string([]byte{byte(c)}) + strings.Repeat("\xff", n)
				want := ahead + string([]byte{byte(c + 1)})
				if got, ok := After(s); !ok || got != want {
					t.Errorf("3.3: After(%x): %x %t", s, got, ok)
				}
			}
		}
	}
}

func TestAfterIsTheLeastAboveAll(t *testing.T) {
	all := allTexts("\x00\x01a\xfe\xff", 4)
	for _, s := range all {
		after, ok := After(s)
		// No text here is longer than this one, which is the highest of those that begin with s up to its length.
		top := s + strings.Repeat("\xff", 5)
		for _, u := range all {
			if above := u > top; above != (ok && u >= after) {
				t.Fatalf("3.3: After(%x): %x %t, and %x", s, after, ok, u)
			}
		}
		if ok && after <= top {
			t.Fatalf("3.3: After(%x): %x, not above %x", s, after, top)
		}
	}
}

// 3.4

// compared holds two values against each other in their own order, by other means than their bytes.
func compared(a, b api.Value) int {
	if a.Kind != b.Kind {
		return cmp.Compare(a.Kind, b.Kind)
	}
	x, y := math.Float64frombits(a.F), math.Float64frombits(b.F)
	if math.IsNaN(x) || math.IsNaN(y) {
		return -cmp.Compare(x, y) // cmp has NaN below all, the document above.
	}
	return cmp.Or(cmp.Compare(a.N, b.N), cmp.Compare(x, y), strings.Compare(a.S, b.S))
}

// holdOrder holds the bytes of two tuples against the order of their values.
func holdOrder(t *testing.T, a, b []api.Value) {
	t.Helper()
	x, y := put(t, a), put(t, b)
	if got, want := strings.Compare(x, y), slices.CompareFunc(a, b, compared); got != want {
		t.Errorf("3.4: %v and %v: %d, not %d", a, b, got, want)
	}
	begins := len(b) <= len(a) && slices.Equal(a[:len(b)], b)
	if strings.HasPrefix(x, y) != begins {
		t.Errorf("3.4: the bytes of %v begin with those of %v: %t", a, b, !begins)
	}
}

func TestTuplesAreInTheOrderOfTheFirstThatAreUnlike(t *testing.T) {
	r := rand.New(rand.NewSource(5))
	for i, a := range rising() {
		for k, b := range rising() {
			// What stands ahead is the same, what stands behind does not count.
			ahead := someList(r, r.Intn(8))
			x := append(append(slices.Clone(ahead), a), someList(r, r.Intn(8))...)
			y := append(append(slices.Clone(ahead), b), someList(r, r.Intn(8))...)
			if i != k && strings.Compare(put(t, x), put(t, y)) != cmp.Compare(i, k) {
				t.Errorf("3.4: %v and %v", x, y)
			}
			holdOrder(t, x, y)
		}
	}
}

func TestATupleThatBeginsAnotherOneIsBelow(t *testing.T) {
	r := rand.New(rand.NewSource(6))
	for range 3000 {
		vs := someList(r, 1+r.Intn(16))
		n := r.Intn(len(vs))
		if x, y := put(t, vs[:n]), put(t, vs); x >= y {
			t.Errorf("3.4: %v and its first %d", vs, n)
		}
		holdOrder(t, vs, vs[:n])
	}
	for _, v := range rising() {
		holdOrder(t, nil, list(v))
		holdOrder(t, list(v), list(v, null))
	}
}

func TestOrderOfAnyTuples(t *testing.T) {
	r := rand.New(rand.NewSource(7))
	all := [][]api.Value{nil}
	for range 400 {
		from := all[r.Intn(len(all))]
		all = append(all, append(slices.Clone(from[:r.Intn(len(from)+1)]), someList(r, r.Intn(3))...))
		all[len(all)-1] = all[len(all)-1][:min(16, len(all[len(all)-1]))]
	}
	for _, a := range all {
		for _, b := range all {
			holdOrder(t, a, b)
		}
	}
}

// holdAfter holds whether u begins with s against where it lies.
func holdAfter(t *testing.T, s, u string) {
	t.Helper()
	after, ok := After(s)
	// Where nothing is above all that begin with s, nothing bounds them.
	if within := u >= s && (!ok || u < after); within != strings.HasPrefix(u, s) {
		t.Errorf("3.4: %x begins with %x: %t", u, s, !within)
	}
}

func TestATextThatBeginsWithAnotherOne(t *testing.T) {
	all := allTexts("\x00\x01a\xfe\xff", 4)
	for _, s := range all {
		for _, u := range all {
			holdAfter(t, s, u)
		}
	}
}

func TestATupleThatBeginsWithAnotherOne(t *testing.T) {
	r := rand.New(rand.NewSource(8))
	for range 5000 {
		a := someList(r, r.Intn(4))
		b := append(slices.Clone(a[:r.Intn(len(a)+1)]), someList(r, r.Intn(3))...)
		x, y := put(t, a), put(t, b)
		holdAfter(t, x, y)
		holdAfter(t, y, x)
	}
}

// The rules of all calls

func TestWhatIsHandedInIsNotChanged(t *testing.T) {
	vs := append(rising()[:10:10], wrong()[0], null)
	was := slices.Clone(vs)
	Put(vs)
	Put(vs[:10])
	if !slices.Equal(vs, was) {
		t.Errorf("R3: %v, not %v", vs, was)
	}
}

func TestWhatIsToldIsNewMemory(t *testing.T) {
	want := list(integer(1), text("a"), null)
	s := put(t, want)
	first, _ := Get(s)
	second, _ := Get(s)
	for i := range first[:cap(first)] {
		first[:cap(first)][i] = text("turned")
	}
	_ = append(second[:1], text("turned"))
	reads(t, s, want)
	if second[0] != want[0] || second[2] != want[2] {
		t.Errorf("R3: %v", second)
	}
}

func TestTheSameCallsTellTheSame(t *testing.T) {
	for _, vs := range [][]api.Value{nil, rising()[:16], rising(), wrong()} {
		s, e := Put(vs)
		holdPut(t, vs, s, e)
	}
	for range 2 {
		reads(t, "\x01\x07a\x00\x01", list(null, text("a")))
		refuses(t, "\x01\x07a\x00")
	}
}
