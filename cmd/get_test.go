package cmd

import (
	"encoding/binary"
	"math/rand"
	"reflect"
	"slices"
	"strings"
	"testing"

	"falsework/api"
)

// full is a command with as much in its lists as fits.
func full() api.Command {
	c := api.Command{Kind: 5, Client: 100, Seq: 1 << 40, Snap: 1 << 40, Deadline: 1 << 40, After: 1 << 40, Held: 1 << 40, Code: 21, Text: strings.Repeat("t", 1000)}
	c.Keys, c.Ranges, c.Writes, c.Rows = keys(200), make([]api.Range, 50), writes(keys(200)), make([][]api.Value, 200)
	c.Rows[0] = make([]api.Value, 8)
	c.Rows[199] = make([]api.Value, 8)
	return c
}

// 13.3

func TestGetCut(t *testing.T) {
	refused(t, "13.3", "the empty text", "")
	for _, c := range []api.Command{{}, whole()} {
		plain, _ := laid(c)
		s := sealed(plain)
		for i := range s {
			refused(t, "13.3", "cut at the end", s[:i])
			refused(t, "13.3", "cut at the beginning", s[i+1:])
		}
		for i := range plain {
			refused(t, "13.3", "cut at the end, sealed anew", sealed(plain[:i]))
			refused(t, "13.3", "cut at the beginning, sealed anew", sealed(plain[i+1:]))
		}
	}
	plain, fields := laid(full())
	for _, f := range fields {
		refused(t, "13.3", "cut ahead of a field", sealed(plain[:f.at]))
	}
	for n := range 130 {
		for _, c := range []string{"\x00", "\x01", "\xff", "a"} {
			if read(t, "short", strings.Repeat(c, n)) != (n == 13*8 && c == "\x00") {
				t.Error("13.3: short", n)
			}
			refused(t, "13.3", "without a sum", strings.Repeat(c, n+1))
		}
	}
}

func TestGetMore(t *testing.T) {
	for _, c := range []api.Command{{}, whole()} {
		plain, fields := laid(c)
		s := sealed(plain)
		for _, more := range []string{"\x00", "\x01", "\xff", eight(0), eight(1), s, plain, s[len(s)-4:], sealed("")} {
			refused(t, "13.3", "more behind", s+more)
			refused(t, "13.3", "more behind, sealed anew", sealed(plain+more))
			refused(t, "13.3", "more behind, sealed twice", sealed(s+more))
			refused(t, "13.3", "more ahead", more+s)
		}
		refused(t, "13.3", "sealed twice", sealed(s))
		refused(t, "13.3", "without its sum", plain)
		for _, f := range fields {
			refused(t, "13.3", "a byte put in", sealed(plain[:f.at]+"\x00"+plain[f.at:]))
			refused(t, "13.3", "a byte taken out", sealed(plain[:f.at]+plain[f.at+1:]))
		}
	}
}

func TestGetTurned(t *testing.T) {
	for _, c := range []api.Command{{}, whole()} {
		s, e := Put(c)
		if e != api.OK {
			t.Fatal("13.2:", e)
		}
		for i := range s {
			for n := 1; n < 256; n++ {
				b := []byte(s)
				b[i] ^= byte(n)
				refused(t, "13.3", "one byte turned", string(b))
			}
		}
	}
}

// put is a text with another number at a place.
func put(plain string, at int, n uint64) string {
	b := []byte(plain)
	binary.BigEndian.PutUint64(b[at:], n)
	return string(b)
}

func TestGetLengths(t *testing.T) {
	lengths := 0
	for _, c := range []api.Command{{}, whole()} {
		plain, fields := laid(c)
		for _, f := range fields {
			if f.what != textLength && f.what != listLength {
				continue
			}
			lengths++
			n := binary.BigEndian.Uint64([]byte(plain[f.at:]))
			left := uint64(len(plain) - f.at - 8)
			// Whether another length than the one that is there is of a command too is the reckoning's to tell.
			for _, other := range []uint64{0, n - 1, n, n + 1, n + 2, 2 * n, n + 8, left - 8, left - 1, left, left / 8, 3, 8, 9, 40, 50, 51, 200, 201} {
				read(t, "a length that is another", put(plain, f.at, other))
			}
			for _, wrong := range []uint64{
				left + 1, left + 8, -n - 1, 1<<64 - 1, 1<<64 - 2, 1<<64 - 8, -left - 1, 1 << 63, 1<<63 + n, 1<<63 + 1, 1<<63 - 1,
				n + 1<<16, n + 1<<31, n + 1<<32, n + 1<<60, n + 1<<61, n + 1<<62, 1 << 32, 1 << 48,
			} {
				refused(t, "13.3", "a length below 0, or greater than what is left", sealed(put(plain, f.at, wrong)))
			}
			if !read(t, "the length that is there", put(plain, f.at, n)) {
				t.Error("13.3: the length that is there")
			}
		}
	}
	if lengths != 5+5+4+6+6+3+6 {
		t.Error("how many lengths", lengths)
	}
}

func TestGetBools(t *testing.T) {
	c := whole()
	c.Writes = []api.Write{{Key: "a"}, {Key: "b", Del: true}, {Key: "c"}}
	plain, fields := laid(c)
	bools := 0
	for _, f := range fields {
		if f.what != boolNumber {
			continue
		}
		bools++
		for _, n := range []uint64{0, 1} {
			if !read(t, "a bool", put(plain, f.at, n)) {
				t.Error("13.3: a bool", n)
			}
		}
		for i := range 64 {
			for _, n := range []uint64{1 << i, 1<<i | 1, 1<<i - 1, ^uint64(0) << i} {
				if n > 1 {
					refused(t, "13.3", "a bool that is neither 0 nor 1", sealed(put(plain, f.at, n)))
				}
			}
		}
	}
	if bools != 3 {
		t.Error("how many bools", bools)
	}
}

// A Del of what has a Val is no command's, however right its bool is.
func TestGetDel(t *testing.T) {
	plain, fields := laid(whole())
	for _, f := range fields {
		if f.what == boolNumber && binary.BigEndian.Uint64([]byte(plain[f.at:])) == 0 {
			has := !strings.HasSuffix(plain[:f.at], eight(0))
			if read(t, "a Del", put(plain, f.at, 1)) == has {
				t.Error("13.3: a Del with a Val, or without one", has)
			}
		}
	}
}

func TestGetNumbers(t *testing.T) {
	plain, fields := laid(whole())
	numbers := []uint64{10, 15, 20, 21, 22, 23, 99, 100, 101, 102, 1<<32 + 2, 1<<40 - 1, 1 << 40, 1<<40 + 1, 1<<63 - 1, 1 << 63, 1<<63 + 1, 1<<64 - 2, 1<<64 - 1, 0x7ff8000000000000, 0x7ff8000000000001}
	for n := range uint64(10) {
		numbers = append(numbers, n)
	}
	good := 0
	for _, f := range fields {
		for _, n := range numbers {
			if read(t, "a number that is another", put(plain, f.at, n)) {
				good++
			}
		}
	}
	if good < 2*len(fields) {
		t.Error("too few texts are of a command", good, len(fields))
	}
}

func TestGetBytesTurnedAndSealedAnew(t *testing.T) {
	plain, _ := laid(whole())
	good := 0
	for i := range plain {
		for n := range 256 {
			b := []byte(plain)
			b[i] = byte(n)
			if read(t, "a byte that is another", string(b)) {
				good++
			}
		}
	}
	if good < 20*len(plain) {
		t.Error("too few texts are of a command", good, len(plain))
	}
}

// The bytes of commands that may not be, under a right sum.
func TestGetOfNoCommand(t *testing.T) {
	val := strings.Repeat("v", 10000)
	for i, spoil := range []func(c *api.Command){
		func(c *api.Command) { c.Kind = -1 }, func(c *api.Command) { c.Kind = 6 }, func(c *api.Command) { c.Client = -1 }, func(c *api.Command) { c.Client = 101 },
		func(c *api.Command) { c.Seq = -1 }, func(c *api.Command) { c.Snap = 1<<40 + 1 }, func(c *api.Command) { c.Deadline = -1 }, func(c *api.Command) { c.After = 1<<40 + 1 }, func(c *api.Command) { c.Held = -1 }, func(c *api.Command) { c.Code = 22 },
		func(c *api.Command) { c.Keys = []string{"a", "a"} }, func(c *api.Command) { c.Keys = []string{"b", "a"} }, func(c *api.Command) { c.Keys = keys(201) }, func(c *api.Command) { c.Keys = []string{val[:1001]} },
		func(c *api.Command) { c.Ranges = make([]api.Range, 51) }, func(c *api.Command) { c.Ranges = []api.Range{{Lo: val[:1001]}} }, func(c *api.Command) { c.Ranges = []api.Range{{Hi: val[:1001]}} },
		func(c *api.Command) { c.Writes = writes(keys(201)) }, func(c *api.Command) { c.Writes = writes([]string{"a", "a"}) }, func(c *api.Command) { c.Writes = writes([]string{"b", "a"}) }, func(c *api.Command) { c.Writes = writes([]string{val[:1001]}) },
		func(c *api.Command) { c.Writes = []api.Write{{Val: val + "v"}} }, func(c *api.Command) { c.Writes = []api.Write{{Val: "v", Del: true}} },
		func(c *api.Command) { c.Text = val[:1001] }, func(c *api.Command) { c.Rows = make([][]api.Value, 201) }, func(c *api.Command) { c.Rows = [][]api.Value{make([]api.Value, 9)} }, func(c *api.Command) { c.Rows = [][]api.Value{{{Kind: 2, S: "a"}}} },
	} {
		c := whole()
		spoil(&c)
		plain, _ := laid(c)
		if read(t, "what is no command", plain) {
			t.Error("13.3: the reckoning takes", i)
		}
	}
}

// Put tells of no text of more than 20000 bytes, so neither does Get.
func TestGetLong(t *testing.T) {
	for n := 19997; n < 20004; n++ {
		for what, c := range ofLength(n) {
			plain, _ := laid(c)
			if read(t, what, plain) != (n <= 20000) {
				t.Error("13.3:", what, n)
			}
		}
	}
	many := strings.Repeat("\x00", 1<<22)
	for _, s := range []string{many, strings.Repeat(eight(0), 4) + eight(1<<15) + many, strings.Repeat("\x01", 1<<20), many[:19996], strings.Repeat(eight(0), 4) + "\xff\xff\xff\xff\xff\xff\xff\xff" + many[:19000], strings.Repeat(eight(0), 5) + eight(1200) + many[:19800]} {
		refused(t, "13.3", "many bytes", sealed(s))
	}
}

// A reader is an embedded cursor, which gives up by panic.
func TestReaderGivesUp(t *testing.T) {
	for _, s := range []string{"", "\x00", eight(0)[1:]} {
		func() {
			defer func() {
				if recover() == nil {
					t.Errorf("a number of %d bytes", len(s))
				}
			}()
			r := &reader{cursor{left: s}}
			r.number()
		}()
	}
	r := &reader{cursor{left: eight(772) + "more"}}
	if n := r.number(); n != 772 || r.left != "more" || r.take(4) != "more" || r.cursor.left != "" {
		t.Error("what is left", n, r.left)
	}
}

// 13.4

// drawnText is up to most bytes of a few.
func drawnText(r *rand.Rand, most int) string {
	b := make([]byte, r.Intn(most+1))
	for i := range b {
		b[i] = "\x00\x01az\xfe\xff"[r.Intn(6)]
	}
	return string(b)
}

func drawnKeys(r *rand.Rand) []string {
	var list []string
	for range r.Intn(1 + r.Intn(20)) {
		list = append(list, drawnText(r, 5))
	}
	slices.Sort(list)
	return slices.Compact(list)
}

// drawn is a command that may be.
func drawn(r *rand.Rand) api.Command {
	time := func() int { return r.Intn(1+api.MaxTime) >> r.Intn(41) }
	c := api.Command{Kind: r.Intn(6), Client: r.Intn(101), Seq: time(), Snap: time(), Deadline: time(), After: time(), Held: time(), Code: r.Intn(22), Text: drawnText(r, 40)}
	c.Keys = drawnKeys(r)
	for range r.Intn(4) {
		c.Ranges = append(c.Ranges, api.Range{Lo: drawnText(r, 9), Hi: drawnText(r, 9)})
	}
	for _, k := range drawnKeys(r) {
		w := api.Write{Key: k, Del: r.Intn(3) == 0}
		if !w.Del {
			w.Val = drawnText(r, 9)
		}
		c.Writes = append(c.Writes, w)
	}
	may, _ := values()
	for range r.Intn(5) {
		var row []api.Value
		for range r.Intn(9) {
			row = append(row, may[r.Intn(len(may))])
		}
		c.Rows = append(c.Rows, row)
	}
	return c
}

func TestDrawn(t *testing.T) {
	r := rand.New(rand.NewSource(13))
	for range 4000 {
		c := drawn(r)
		held(t, "a drawn one", c, api.OK)
		s, _ := Put(c)
		d, e := Get(s)
		if again, f := Put(d); again != s || e != api.OK || f != api.OK {
			t.Fatalf("13.4: %+v", c)
		}
	}
}

// Long ones: some that fit, some that do not.
func TestDrawnLong(t *testing.T) {
	r := rand.New(rand.NewSource(131))
	count := map[api.Errno]int{}
	for range 400 {
		c := drawn(r)
		for i := range c.Writes {
			if !c.Writes[i].Del {
				c.Writes[i].Val = drawnText(r, 10000)
			}
		}
		_, e := toBePut(c)
		count[e]++
		held(t, "a drawn one", c, e)
	}
	if count[api.OK] < 50 || count[api.ErrLong] < 50 || len(count) != 2 {
		t.Error("too few of one sort", count)
	}
}

func TestDrawnAndTurned(t *testing.T) {
	r := rand.New(rand.NewSource(1313))
	good := 0
	for range 10000 {
		plain, fields := laid(drawn(r))
		for range 1 + r.Intn(2) {
			f := fields[r.Intn(len(fields))]
			n := binary.BigEndian.Uint64([]byte(plain[f.at:]))
			switch r.Intn(3) {
			case 0:
				n += uint64(r.Intn(11) - 5)
			case 1:
				n = uint64(r.Intn(11) - 1)
			default:
				n = binary.BigEndian.Uint64([]byte(plain[fields[r.Intn(len(fields))].at:]))
			}
			plain = put(plain, f.at, n)
		}
		if read(t, "drawn and turned", plain) {
			good++
		}
		var c api.Command
		if _, ok := scan(reflect.ValueOf(&c).Elem(), plain); ok {
			_, e := toBePut(c)
			held(t, "drawn and turned", c, e)
		}
	}
	if good < 1000 || good > 9000 {
		t.Error("too few texts of one sort", good)
	}
}

// Bytes that are drawn, most of them noughts, so that some are a command's.
func TestDrawnBytes(t *testing.T) {
	r := rand.New(rand.NewSource(13131))
	good := 0
	for range 20000 {
		b := make([]byte, 13*8+8*r.Intn(4))
		for range r.Intn(4) {
			b[r.Intn(len(b)/8)*8+7] = byte(r.Intn(5))
		}
		if read(t, "drawn bytes", string(b)) {
			good++
		}
	}
	if good < 1000 || good > 19000 {
		t.Error("too few texts of one sort", good)
	}
}

// The rules of all calls

// R3: what is handed in is not changed.
func TestNotChanged(t *testing.T) {
	for _, made := range []func() api.Command{whole, full} {
		c := made()
		May(c)
		if _, e := Put(c); e != api.OK || !reflect.DeepEqual(c, made()) {
			t.Error("R3: what was handed in has changed")
		}
	}
}

// spoil writes over a list, spare room too.
func spoil[T any](list []T, with T) {
	list = list[:cap(list)]
	for i := range list {
		list[i] = with
	}
}

// spoilt writes over one list of a command: Keys, Ranges, Writes, Rows, and behind them each row.
func spoilt(c api.Command, n int) {
	switch n {
	case 0:
		spoil(c.Keys, "spoilt")
	case 1:
		spoil(c.Ranges, api.Range{Lo: "spoilt"})
	case 2:
		spoil(c.Writes, api.Write{Key: "spoilt"})
	case 3:
		spoil(c.Rows, []api.Value{{Kind: 6}})
	default:
		spoil(c.Rows[n-4], api.Value{Kind: 6})
	}
}

// R3: who writes into what Get told changes nothing that it tells again.
func TestToldIsNew(t *testing.T) {
	for _, c := range []api.Command{whole(), full()} {
		s, _ := Put(c)
		kept := strings.Clone(s)
		first, _ := Get(s)
		for n := 3 + len(c.Rows); n >= 0; n-- {
			spoilt(first, n)
		}
		if second, e := Get(s); e != api.OK || !same(second, c) || s != kept {
			t.Error("R3: what was told is kept")
		}
		if again, e := Put(c); again != s || e != api.OK {
			t.Error("R3: what is put has changed")
		}
	}
}

// R3: no two lists of one answer share memory: each is written over, and no other changes.
func TestListsApart(t *testing.T) {
	for _, c := range []api.Command{whole(), full()} {
		s, _ := Put(c)
		for n := range 4 + len(c.Rows) {
			got, _ := Get(s)
			want, _ := Get(s)
			spoilt(got, n)
			switch {
			case n == 0:
				got.Keys = want.Keys
			case n == 1:
				got.Ranges = want.Ranges
			case n == 2:
				got.Writes = want.Writes
			case n == 3:
				got.Rows = want.Rows
			default:
				got.Rows[n-4] = want.Rows[n-4]
			}
			if !same(got, want) || !same(want, c) {
				t.Error("R3: lists of one answer share memory", n)
			}
		}
	}
}

// R3: what is appended to one row is not seen in another one.
func TestRowsApart(t *testing.T) {
	c := api.Command{Rows: [][]api.Value{{{}}, {{}, {}, {}}, {}, {{}, {}}, {{Kind: 2, N: 7}}}}
	s, _ := Put(c)
	got, _ := Get(s)
	for i := range got.Rows {
		_ = append(got.Rows[i], api.Value{Kind: 2, N: 9}, api.Value{Kind: 2, N: 9})
	}
	_ = append(got.Rows, []api.Value{{Kind: 2, N: 9}})
	if !same(got, c) {
		t.Error("R3: rows share memory")
	}
}

// R4: beside an error nothing is told.
func TestNothingBesideErrors(t *testing.T) {
	plain, _ := laid(api.Command{Kind: -1, Text: "text", Keys: []string{"a"}})
	for _, s := range []string{"", "a", "abcd", sealed(""), sealed(plain), sealed(plain + "\x00"), sealed(plain[:len(plain)-1]), strings.Repeat("\x00", 108), plain} {
		refused(t, "R4", "what is no command's", s)
	}
}

// R5: the same calls tell the same, whatever was called between.
func TestSameAgain(t *testing.T) {
	s, _ := Put(whole())
	for _, other := range []string{"", sealed("text"), s[:len(s)-1], sealed(s)} {
		Get(other)
		Put(api.Command{Kind: 9})
		if again, e := Put(whole()); again != s || e != api.OK {
			t.Error("R5: Put", e)
		}
		if c, e := Get(s); !same(c, whole()) || e != api.OK {
			t.Error("R5: Get", e)
		}
	}
}
