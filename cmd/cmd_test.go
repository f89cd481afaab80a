package cmd

import (
	"math"
	"reflect"
	"strings"
	"testing"

	"falsework/api"
)

// whole is a command with something of each kind in it.
func whole() api.Command {
	return api.Command{
		Kind: api.CmdStmt, Client: 4, Seq: 17, Snap: 90,
		Keys:     []string{"", "a", "a\x00", "b\xff"},
		Ranges:   []api.Range{{Lo: "q", Hi: "c"}, {Lo: "q", Hi: "c"}, {}},
		Writes:   []api.Write{{Key: "", Val: ""}, {Key: "m", Val: "xyz"}, {Key: "n", Del: true}},
		Deadline: 200, After: 91, Held: 6, Text: "select * from t", Code: int(api.ErrUnique),
		Rows: [][]api.Value{
			{{Kind: api.KInt, N: -2}, {Kind: api.KText, S: "x\x00"}, {}},
			{},
			{{Kind: api.KFloat, F: 1<<63 | 5}, {Kind: api.KBool, N: 1}, {Kind: api.KBytes, S: "\xff"}},
		},
	}
}

// keys is n texts that rise.
func keys(n int) []string {
	var list []string
	for i := range n {
		list = append(list, string([]byte{byte(i >> 8), byte(i)}))
	}
	return list
}

func writes(names []string) []api.Write {
	var list []api.Write
	for i, k := range names {
		list = append(list, api.Write{Key: k, Del: i%2 == 1})
	}
	return list
}

// turn is a command that is turned, and what Put then tells.
type turn struct {
	what string
	turn func(c *api.Command)
	e    api.Errno
}

// turned holds turns of the whole command, and of the one without anything.
func turned(t *testing.T, turns ...turn) {
	t.Helper()
	for _, x := range turns {
		for _, c := range []api.Command{whole(), {}} {
			x.turn(&c)
			held(t, x.what, c, x.e)
		}
	}
}

// unless is ErrArg, but where it is so.
func unless(so bool) api.Errno {
	if so {
		return api.OK
	}
	return api.ErrArg
}

// 13.1, and of each command what 13.2, 13.3 and 13.4 say of it

func TestExample(t *testing.T) {
	held(t, "nothing", api.Command{}, api.OK)
	s, e := Put(api.Command{})
	if e != api.OK || s != strings.Repeat("\x00", 13*8)+s[13*8:] || len(s) != 13*8+4 {
		t.Errorf("13.2: nothing: %x %d", s, e)
	}
	if c, e := Get(s); e != api.OK || !reflect.DeepEqual(c, api.Command{}) {
		t.Errorf("13.3: nothing: %+v %d", c, e)
	}
}

func TestMayNumbers(t *testing.T) {
	for _, x := range []struct {
		what string
		at   func(c *api.Command) *int
		high int
	}{
		{"Kind", func(c *api.Command) *int { return &c.Kind }, api.CmdFill},
		{"Client", func(c *api.Command) *int { return &c.Client }, 100},
		{"Seq", func(c *api.Command) *int { return &c.Seq }, 1 << 40},
		{"Snap", func(c *api.Command) *int { return &c.Snap }, 1 << 40},
		{"Deadline", func(c *api.Command) *int { return &c.Deadline }, 1 << 40},
		{"After", func(c *api.Command) *int { return &c.After }, 1 << 40},
		{"Held", func(c *api.Command) *int { return &c.Held }, 1 << 40},
		{"Code", func(c *api.Command) *int { return &c.Code }, int(api.ErrRight)},
	} {
		for _, n := range []int{
			math.MinInt, math.MinInt + 1, -1 << 40, -1 << 32, -256, -2, -1, 0, 1, x.high / 2, x.high - 1, x.high, x.high + 1, x.high + 2,
			1<<8 + 1, 1<<16 + 1, 1<<32 + 1, 1<<41 - 1, 1 << 41, math.MaxInt - 1, math.MaxInt,
		} {
			turned(t, turn{x.what, func(c *api.Command) { *x.at(c) = n }, unless(n >= 0 && n <= x.high)})
		}
	}
}

// No number hangs on another one.
func TestMayNumbersApart(t *testing.T) {
	for kind := api.CmdNone; kind <= api.CmdFill; kind++ {
		for code := api.OK; code <= api.ErrRight; code++ {
			c := whole()
			c.Kind, c.Code = kind, int(code)
			held(t, "Kind and Code", c, api.OK)
		}
	}
	turned(t,
		turn{"Snap above all", func(c *api.Command) { c.Snap, c.Deadline, c.After = api.MaxTime, 0, 0 }, api.OK},
		turn{"After behind Deadline", func(c *api.Command) { c.Deadline, c.After = 1, api.MaxTime }, api.OK},
		turn{"a Seq of no client", func(c *api.Command) { c.Client, c.Seq = 0, api.MaxTime }, api.OK},
		turn{"all at their upper ends", func(c *api.Command) {
			c.Kind, c.Client, c.Seq, c.Snap, c.Deadline, c.After, c.Held, c.Code = 5, 100, 1<<40, 1<<40, 1<<40, 1<<40, 1<<40, 21
		}, api.OK},
	)
}

func TestMayRise(t *testing.T) {
	for _, list := range [][]string{
		{}, {""}, {"a"}, {"", "\x00"}, {"", "a"}, {"a", "b"}, {"a", "a\x00"}, {"a", "aa"}, {"a", "b", "ba", "c"}, {"\x7f", "\x80"}, {"\xfe", "\xff", "\xff\x00"},
		{"B", "a"}, {"10", "9"}, {"z", "\u00e9"}, {"a\x00", "a\x00\x00", "a\x01"}, {"\uffff", "\U00010000"}, {"\xed\xa0\x80", "\xff"},
	} {
		turned(t, turn{"Keys that rise", func(c *api.Command) { c.Keys = list }, api.OK}, turn{"Keys of Writes that rise", func(c *api.Command) { c.Writes = writes(list) }, api.OK})
	}
	for _, list := range [][]string{
		{"", ""}, {"a", "a"}, {"a", "b", "b"}, {"a", "a", "b"}, {"a", "b", "a"}, {"a\x00", "a\x00"},
		{"a", ""}, {"\x00", ""}, {"b", "a"}, {"aa", "a"}, {"a\x00", "a"}, {"a", "c", "b"}, {"b", "a", "c"}, {"\x80", "\x7f"}, {"\xff\x00", "\xff"}, {"a", "B"}, {"9", "10"}, {"\u00e9", "z"}, {"c", "b", "a"},
	} {
		turned(t, turn{"Keys that do not rise", func(c *api.Command) { c.Keys = list }, api.ErrArg}, turn{"Keys of Writes that do not rise", func(c *api.Command) { c.Writes = writes(list) }, api.ErrArg})
	}
	for at := range 199 {
		same, fall := keys(200), keys(200)
		same[at+1] = same[at]
		fall[at], fall[at+1] = fall[at+1], fall[at]
		for _, list := range [][]string{same, fall} {
			turned(t, turn{"many Keys, of which two do not rise", func(c *api.Command) { c.Keys = list }, api.ErrArg}, turn{"many Writes, of which two do not rise", func(c *api.Command) { c.Writes = writes(list) }, api.ErrArg})
		}
	}
}

// Keys and Writes are not held against each other, and of Ranges no order is asked.
func TestMayOrders(t *testing.T) {
	turned(t,
		turn{"Keys above those of Writes", func(c *api.Command) { c.Keys, c.Writes = []string{"c", "d"}, writes([]string{"a", "b"}) }, api.OK},
		turn{"Keys that are those of Writes", func(c *api.Command) { c.Keys, c.Writes = keys(9), writes(keys(9)) }, api.OK},
		turn{"the same Range", func(c *api.Command) { c.Ranges = []api.Range{{Lo: "a", Hi: "b"}, {Lo: "a", Hi: "b"}} }, api.OK},
		turn{"Ranges that fall", func(c *api.Command) { c.Ranges = []api.Range{{Lo: "c", Hi: "d"}, {Lo: "a", Hi: "b"}} }, api.OK},
		turn{"a Range from above to below", func(c *api.Command) { c.Ranges = []api.Range{{Lo: "b", Hi: "a"}} }, api.OK},
		turn{"a Range without ends", func(c *api.Command) { c.Ranges = []api.Range{{}} }, api.OK},
		turn{"the same row", func(c *api.Command) { c.Rows = [][]api.Value{{{Kind: 2, N: 3}}, {{Kind: 2, N: 3}}} }, api.OK},
		turn{"rows of unlike lengths and kinds", func(c *api.Command) { c.Rows = [][]api.Value{{}, {{Kind: 2}, {}}, {{Kind: 5, S: "a"}}, nil} }, api.OK},
	)
}

func TestMayHowMany(t *testing.T) {
	for _, n := range []int{0, 1, 2, 7, 8, 9, 16, 49, 50, 51, 100, 199, 200, 201, 202, 256, 257, 400, 5000} {
		turned(t,
			turn{"Keys", func(c *api.Command) { c.Keys = keys(n) }, unless(n <= 200)},
			turn{"Ranges", func(c *api.Command) { c.Ranges = make([]api.Range, n) }, unless(n <= 50)},
			turn{"Writes", func(c *api.Command) { c.Writes = writes(keys(n)) }, unless(n <= 200)},
			turn{"Rows", func(c *api.Command) { c.Rows = make([][]api.Value, n) }, unless(n <= 200)},
			turn{"values of the only row", func(c *api.Command) { c.Rows = [][]api.Value{make([]api.Value, n)} }, unless(n <= 8)},
			turn{"values of the last row", func(c *api.Command) { c.Rows = [][]api.Value{{}, {{}}, make([]api.Value, n)} }, unless(n <= 8)},
			turn{"values of the first row", func(c *api.Command) { c.Rows = [][]api.Value{make([]api.Value, n), {{}}, {}} }, unless(n <= 8)},
		)
	}
	turned(t, turn{"of all as many as there may be", func(c *api.Command) {
		c.Keys, c.Ranges, c.Writes, c.Rows = keys(200), make([]api.Range, 50), writes(keys(200)), make([][]api.Value, 200)
		c.Rows[199] = make([]api.Value, 8)
	}, api.OK})
}

func TestMayHowLong(t *testing.T) {
	for _, n := range []int{0, 1, 255, 256, 999, 1000, 1001, 1002, 1256, 2000, 9999, 10000, 10001, 10002, 1 << 16, 1 << 20} {
		for _, c := range []string{"k", "\x00", "\xff"} {
			s := strings.Repeat(c, n)
			key, val := unless(n <= 1000), unless(n <= 10000)
			turned(t,
				turn{"the only Key", func(c *api.Command) { c.Keys = []string{s} }, key},
				turn{"Lo", func(c *api.Command) { c.Ranges = []api.Range{{Lo: s}} }, key},
				turn{"Hi", func(c *api.Command) { c.Ranges = []api.Range{{Hi: s}} }, key},
				turn{"the last Lo", func(c *api.Command) { c.Ranges = []api.Range{{}, {Lo: "a", Hi: "b"}, {Lo: s, Hi: "c"}} }, key},
				turn{"the last Hi", func(c *api.Command) { c.Ranges = []api.Range{{}, {Lo: "a", Hi: "b"}, {Lo: "a", Hi: s}} }, key},
				turn{"the only written Key", func(c *api.Command) { c.Writes = []api.Write{{Key: s}} }, key},
				turn{"the only deleted Key", func(c *api.Command) { c.Writes = []api.Write{{Key: s, Del: true}} }, key},
				turn{"Val", func(c *api.Command) { c.Writes = []api.Write{{Key: "a", Val: s}} }, val},
				turn{"the last Val", func(c *api.Command) {
					c.Writes = []api.Write{{Key: "a", Val: "b"}, {Key: "b", Del: true}, {Key: "c", Val: s}}
				}, val},
				turn{"the first Val", func(c *api.Command) { c.Writes = []api.Write{{Key: "a", Val: s}, {Key: "b"}} }, val},
				turn{"Text", func(c *api.Command) { c.Text = s }, key},
			)
			if n > 1 {
				last, first := "~"+strings.Repeat(c, n-1), " "+strings.Repeat(c, n-1)
				turned(t,
					turn{"the last Key", func(c *api.Command) { c.Keys = []string{"", "a", last} }, key},
					turn{"the first Key", func(c *api.Command) { c.Keys = []string{first, "a", "b"} }, key},
					turn{"the last written Key", func(c *api.Command) { c.Writes = writes([]string{"", "a", last}) }, key},
					turn{"the first written Key", func(c *api.Command) { c.Writes = writes([]string{first, "a", "b"}) }, key},
				)
			}
		}
	}
}

func TestMayDel(t *testing.T) {
	del := func(at int, val string) func(*api.Command) {
		return func(c *api.Command) {
			c.Writes = []api.Write{{Key: "a"}, {Key: "b", Val: "x"}, {Key: "c", Val: "\x00"}}
			c.Writes[at].Val, c.Writes[at].Del = val, true
		}
	}
	for at := range 3 {
		turned(t, turn{"a Del", del(at, ""), api.OK}, turn{"a Del with a Val", del(at, "x"), api.ErrArg}, turn{"a Del with a nought", del(at, "\x00"), api.ErrArg}, turn{"a Del with a long Val", del(at, strings.Repeat("v", 10000)), api.ErrArg})
	}
	turned(t,
		turn{"nothing but Dels", func(c *api.Command) { c.Writes = []api.Write{{Del: true}, {Key: "a", Del: true}} }, api.OK},
		turn{"an empty Val without Del", func(c *api.Command) { c.Writes = []api.Write{{Key: "a"}} }, api.OK},
	)
}

// values are some that may be, and some that may not.
func values() (may, not []api.Value) {
	long, longer := strings.Repeat("\x00", api.MaxText), strings.Repeat("a", api.MaxText+1)
	may = []api.Value{
		{}, {Kind: 1}, {Kind: 1, N: 1}, {Kind: 2}, {Kind: 2, N: 1}, {Kind: 2, N: -1}, {Kind: 2, N: math.MinInt64}, {Kind: 2, N: math.MaxInt64},
		{Kind: 3}, {Kind: 3, F: 1<<63 | 1}, {Kind: 3, F: 0x7ff8000000000000}, {Kind: 3, F: 0xfff0000000000000}, {Kind: 3, F: 0x3ff0000000000000},
		{Kind: 4}, {Kind: 4, S: "a"}, {Kind: 4, S: long}, {Kind: 5}, {Kind: 5, S: "\xff"}, {Kind: 5, S: long},
	}
	not = []api.Value{
		{N: 1}, {F: 1}, {S: "a"}, {Kind: 1, N: 2}, {Kind: 1, N: -1}, {Kind: 1, F: 1}, {Kind: 1, S: "a"}, {Kind: 2, F: 1}, {Kind: 2, S: "a"},
		{Kind: 3, F: 1 << 63}, {Kind: 3, F: 0x7ff8000000000001}, {Kind: 3, F: 0xfff8000000000000}, {Kind: 3, N: 1}, {Kind: 3, S: "a"},
		{Kind: 4, S: longer}, {Kind: 5, S: longer}, {Kind: 4, N: 1}, {Kind: 5, N: 1}, {Kind: 4, F: 1}, {Kind: 5, F: 1},
		{Kind: 6}, {Kind: -1}, {Kind: 1 << 32}, {Kind: 1<<32 + 2}, {Kind: math.MinInt}, {Kind: math.MaxInt},
	}
	return may, not
}

func TestMayValues(t *testing.T) {
	may, not := values()
	for at := range 8 {
		for row := range 3 {
			with := func(v api.Value) func(*api.Command) {
				return func(c *api.Command) {
					c.Rows = [][]api.Value{make([]api.Value, 8), make([]api.Value, 8), make([]api.Value, 8)}
					c.Rows[row][at] = v
				}
			}
			for _, v := range may {
				turned(t, turn{"a value", with(v), api.OK})
			}
			for _, v := range not {
				turned(t, turn{"a value that may not be", with(v), api.ErrArg})
			}
		}
	}
}

// R3: a list without parts is one, nil or not.
func TestMayEmpty(t *testing.T) {
	c := api.Command{Keys: []string{}, Ranges: []api.Range{}, Writes: []api.Write{}, Rows: [][]api.Value{}}
	held(t, "lists without parts", c, api.OK)
	s, _ := Put(c)
	if other, _ := Put(api.Command{}); s != other {
		t.Error("R3: nil lists are others than empty ones")
	}
	d, _ := Put(api.Command{Rows: [][]api.Value{nil}})
	if e, _ := Put(api.Command{Rows: [][]api.Value{{}}}); d != e || d == s {
		t.Error("R3: a nil row is another than an empty one")
	}
}

// R1: what is far too long is refused as what is a little too long is.
func TestMayGreat(t *testing.T) {
	long := strings.Repeat("v", 1<<24)
	for i, c := range []api.Command{
		{Text: long}, {Keys: []string{long}}, {Keys: make([]string, 1<<20)}, {Ranges: []api.Range{{Lo: long, Hi: long}}}, {Ranges: make([]api.Range, 1<<20)},
		{Writes: []api.Write{{Val: long}}}, {Writes: []api.Write{{Key: long}}}, {Writes: make([]api.Write, 1<<20)}, {Rows: make([][]api.Value, 1<<20)}, {Rows: [][]api.Value{make([]api.Value, 1<<18)}}, {Rows: [][]api.Value{{{Kind: 5, S: long}}}},
	} {
		if s, e := Put(c); May(c) || s != "" || e != api.ErrArg {
			t.Error("13.1: a great one", i, e)
		}
	}
}

// 13.2

// eight is a number below 2^16 in 8 bytes.
func eight(n int) string {
	return string([]byte{0, 0, 0, 0, 0, 0, byte(n >> 8), byte(n)})
}

func TestPutByHand(t *testing.T) {
	c := api.Command{
		Kind: 2, Client: 100, Seq: 0x102030405, Snap: 1 << 40, Keys: []string{"", "ab", "c"}, Ranges: []api.Range{{Lo: "lo", Hi: "h"}, {}},
		Writes: []api.Write{{Key: "w", Val: "val"}, {Key: "wx", Del: true}}, Deadline: 258, After: 772, Held: 3, Text: "a text", Code: 21,
		Rows: [][]api.Value{{{Kind: 2, N: -2}, {Kind: 3, F: 0xc102030405060708}, {Kind: 5, S: "x\x00"}}, {}, {{Kind: 1, N: 1}, {Kind: 4, S: "\xff"}, {}}},
	}
	want := strings.Join([]string{
		eight(2), eight(100), "\x00\x00\x00\x01\x02\x03\x04\x05", "\x00\x00\x01\x00\x00\x00\x00\x00",
		eight(3), eight(0), eight(2), "ab", eight(1), "c",
		eight(2), eight(2), "lo", eight(1), "h", eight(0), eight(0),
		eight(2), eight(1), "w", eight(3), "val", eight(0), eight(2), "wx", eight(0), eight(1),
		eight(258), eight(772), eight(3), eight(6), "a text", eight(21),
		eight(3),
		eight(3),
		eight(2), "\xff\xff\xff\xff\xff\xff\xff\xfe", eight(0), eight(0),
		eight(3), eight(0), "\xc1\x02\x03\x04\x05\x06\x07\x08", eight(0),
		eight(5), eight(0), eight(0), eight(2), "x\x00",
		eight(0),
		eight(3),
		eight(1), eight(1), eight(0), eight(0),
		eight(4), eight(0), eight(0), eight(1), "\xff",
		eight(0), eight(0), eight(0), eight(0),
	}, "")
	if s, e := Put(c); s != sealed(want) || e != api.OK {
		t.Errorf("13.2: %x %d\nnot %x", s, e, sealed(want))
	}
	if d, e := Get(sealed(want)); !same(c, d) || e != api.OK {
		t.Errorf("13.3: %+v %d", d, e)
	}
}

// spread is so many texts that rise (of up to 150), of just so many bytes in all.
func spread(bytes, parts int) []string {
	var list []string
	for i := range parts {
		list = append(list, strings.Repeat(string([]byte{byte('a' + i)}), bytes*(i+1)/parts-bytes*i/parts))
	}
	return list
}

// ofLength are commands of just n bytes, about 20000, by the field whose length makes them so.
func ofLength(n int) map[string]api.Command {
	val := strings.Repeat("v", 10000)
	// A command with one Write has so many bytes left for more.
	left := n - 108 - 24 - len(val)
	one := func() api.Command { return api.Command{Writes: []api.Write{{Val: val}}} }
	vals, written, text, read, los, his, rows := one(), one(), one(), one(), one(), one(), one()
	vals.Writes = append(vals.Writes, api.Write{Key: "b", Val: val[:left-25]})
	written.Writes = append(written.Writes, api.Write{Key: strings.Repeat("k", left-24-9000), Val: val[:9000]})
	text.Writes = append(text.Writes, api.Write{Key: "b", Val: val[:9000]})
	text.Text = strings.Repeat("t", left-25-9000)
	read.Keys = spread(left-10*8, 10)
	for i, s := range spread(left-10*16, 10) {
		los.Ranges = append(los.Ranges, api.Range{Lo: s})
		his.Ranges = append(his.Ranges, api.Range{Lo: s[:i], Hi: s[i:]})
	}
	rows.Rows = make([][]api.Value, 30)
	for i, s := range spread(left-30*8-150*32, 150) {
		rows.Rows[i/8] = append(rows.Rows[i/8], api.Value{Kind: api.KText, S: s})
	}
	return map[string]api.Command{"Vals": vals, "a written Key": written, "Text": text, "Keys": read, "Los": los, "His": his, "Rows": rows}
}

func TestPutLong(t *testing.T) {
	for n := 19990; n < 20011; n++ {
		for what, c := range ofLength(n) {
			if plain, _ := laid(c); len(plain)+4 != n || !mayBe(c) {
				t.Fatalf("%s: %d bytes, not %d", what, len(plain)+4, n)
			}
			want := api.OK
			if n > 20000 {
				want = api.ErrLong
			}
			held(t, what, c, want)
		}
	}
	val := strings.Repeat("v", 10000)
	turned(t,
		turn{"two Vals", func(c *api.Command) { c.Writes = []api.Write{{Key: "a", Val: val}, {Key: "b", Val: val}} }, api.ErrLong},
		turn{"many Vals", func(c *api.Command) {
			c.Writes = nil
			for _, k := range keys(200) {
				c.Writes = append(c.Writes, api.Write{Key: k, Val: val})
			}
		}, api.ErrLong},
		turn{"many rows", func(c *api.Command) {
			c.Rows = make([][]api.Value, 200)
			for i := range c.Rows {
				c.Rows[i] = make([]api.Value, 8)
			}
		}, api.ErrLong},
	)
}

// R2: of both errors ErrArg counts.
func TestPutArgAheadOfLong(t *testing.T) {
	val := strings.Repeat("v", 10000)
	for i, spoil := range []func(c *api.Command){
		func(c *api.Command) { c.Kind = -1 }, func(c *api.Command) { c.Kind = 6 }, func(c *api.Command) { c.Client = 101 }, func(c *api.Command) { c.Seq = -1 },
		func(c *api.Command) { c.Snap = api.MaxTime + 1 }, func(c *api.Command) { c.Deadline = -1 }, func(c *api.Command) { c.After = -1 }, func(c *api.Command) { c.Held = math.MaxInt }, func(c *api.Command) { c.Code = 22 },
		func(c *api.Command) { c.Keys = []string{"a", "a"} }, func(c *api.Command) { c.Keys = []string{val} }, func(c *api.Command) { c.Keys = keys(201) },
		func(c *api.Command) { c.Ranges = make([]api.Range, 51) }, func(c *api.Command) { c.Ranges = []api.Range{{Lo: val}} }, func(c *api.Command) { c.Ranges = []api.Range{{Hi: val}} },
		func(c *api.Command) { c.Writes[1].Key = "a" }, func(c *api.Command) { c.Writes[1].Del = true }, func(c *api.Command) { c.Writes[0].Val += "v" },
		func(c *api.Command) { c.Writes = append(c.Writes, make([]api.Write, 199)...) },
		func(c *api.Command) { c.Text = val }, func(c *api.Command) { c.Rows = make([][]api.Value, 201) }, func(c *api.Command) { c.Rows = [][]api.Value{make([]api.Value, 9)} }, func(c *api.Command) { c.Rows = [][]api.Value{{{Kind: 6}}} },
	} {
		c := api.Command{Writes: []api.Write{{Key: "a", Val: val}, {Key: "b", Val: val}}}
		if s, e := Put(c); s != "" || e != api.ErrLong {
			t.Fatal("13.2: too long", e)
		}
		spoil(&c)
		if s, e := Put(c); s != "" || e != api.ErrArg {
			t.Error("R2: too long, and it may not be:", i, e)
		}
		held(t, "too long, and it may not be", c, api.ErrArg)
	}
}
