package apply

import (
	"fmt"
	"math"
	"slices"
	"testing"

	"falsework/api"
	"falsework/store"
)

func puts(keys ...string) []api.Write {
	var list []api.Write
	for _, k := range keys {
		list = append(list, api.Write{Key: k, Val: "val of " + k})
	}
	return list
}

func dels(keys ...string) []api.Write {
	var list []api.Write
	for _, k := range keys {
		list = append(list, api.Write{Key: k, Del: true})
	}
	return list
}

// stmt is a command of nobody that read as of that time, and writes.
func stmt(snap int, writes ...api.Write) api.Command {
	return api.Command{Kind: api.CmdStmt, Snap: snap, Writes: writes}
}

// of is a command of a client that reads and writes nothing.
func of(client, seq int) api.Command {
	return api.Command{Kind: api.CmdStmt, Client: client, Seq: seq}
}

func TestExample(t *testing.T) {
	b := pair(t, 9)
	c := api.Command{Kind: api.CmdStmt, Keys: []string{"a"}, Writes: []api.Write{{Key: "a", Val: "first"}}}
	b.does("the first of two", 1, c, api.OK)
	c.Writes[0].Val = "second"
	b.does("the second of two", 2, c, api.ErrConflict)
	if v, ok := b.m.Store().Get(2, "a"); v != "first" || !ok {
		t.Error("14.2: what stands at a:", v, ok)
	}
}

// 14.1

func TestNew(t *testing.T) {
	for _, room := range []int{1, 2, api.MaxStore - 1, api.MaxStore} {
		m, e := New(room)
		if e != api.OK || m == nil {
			t.Fatal("14.1: room", room, e)
		}
		if m.Time() != 0 || len(m.Dones()) != 0 || m.Store() == nil || m.Store().Size() != 0 || len(m.Store().Scan(math.MaxInt, "", "", 9)) != 0 {
			t.Error("14.1: a new machine has something", room)
		}
		if d, ok := m.Answer(1, 0); ok || d != (api.Done{}) {
			t.Error("14.1: a new machine has an answer", room)
		}
	}
	for _, room := range []int{math.MinInt, -api.MaxStore, -1, 0, api.MaxStore + 1, 1 << 32, math.MaxInt} {
		if m, e := New(room); e != api.ErrArg || m != nil {
			t.Error("14.1: room", room, e)
		}
	}
}

// Two machines have nothing in common.
func TestNewApart(t *testing.T) {
	one, other := pair(t, 3), pair(t, 3)
	one.does("one", 5, api.Command{Kind: 2, Client: 1, Seq: 4, Writes: puts("a")}, api.OK)
	alike(t, "another machine", other.m, other.p)
	other.does("another one", 2, api.Command{Kind: 2, Client: 1, Seq: 3, Keys: []string{"a"}, Writes: puts("b")}, api.OK)
	alike(t, "the first machine", one.m, one.p)
}

// The room is New's, up to the greatest one.
func TestRoomOfNew(t *testing.T) {
	for _, room := range []int{1, 2, 200, 201, api.MaxStore - 1, api.MaxStore} {
		m, _ := New(room)
		at := 0
		do := func(writes []api.Write, code api.Errno) {
			t.Helper()
			at++
			if d := m.Do(api.Entry{Time: at, Data: bytesOf(t, stmt(at-1, writes...))}); d.Code != int(code) {
				t.Fatalf("14.2: room %d, with %d versions: %d, not %d", room, m.Store().Size(), d.Code, code)
			}
		}
		for m.Store().Size() < room {
			n := m.Store().Size()
			var keys []string
			for i := range min(200, room-n) {
				keys = append(keys, fmt.Sprintf("%04d", n+i))
			}
			if len(keys) < 200 {
				do(puts(append(keys, "x")...), api.ErrFull)
			}
			do(puts(keys...), api.OK)
			if m.Store().Size() != n+len(keys) {
				t.Fatal("14.2: room", room, "versions", m.Store().Size())
			}
		}
		do(puts("0000"), api.ErrFull)
		do(dels("0000"), api.ErrFull)
		do(dels("never"), api.OK)
		do(nil, api.OK)
	}
}

// 14.2, check by check

func TestTimes(t *testing.T) {
	for _, first := range []int{math.MinInt, -1 << 40, -1, 0, api.MaxTime, api.MaxTime + 1, math.MaxInt} {
		b := pair(t, 9)
		b.does("a first time that may not be", first, api.Command{Kind: 2, Client: 3, Seq: 4, Writes: puts("a")}, api.ErrArg)
		b.does("the first time that may be", 1, api.Command{Kind: 2, Client: 3, Seq: 4, Writes: puts("a")}, api.OK)
	}
	b := pair(t, 9)
	b.does("a first time", 5, stmt(0, puts("a")...), api.OK)
	for _, time := range []int{5, 4, 1, 0, -1, math.MinInt, api.MaxTime, api.MaxTime + 1, math.MaxInt} {
		b.does("a time that may not be", time, stmt(0, puts("b")...), api.ErrArg)
	}
	b.does("one above", 6, stmt(5, puts("c")...), api.OK)
	b.does("far above", api.MaxTime-2, stmt(6, puts("d")...), api.OK)
	b.does("far above, again", api.MaxTime-2, stmt(6, puts("d")...), api.ErrArg)
	b.does("the last one", api.MaxTime-1, stmt(6, puts("e")...), api.OK)
	for _, time := range []int{api.MaxTime - 1, api.MaxTime, api.MaxTime + 1} {
		b.does("behind the last one", time, stmt(6, puts("f")...), api.ErrArg)
	}
	if len(b.m.Dones()) != 4 || b.m.Time() != api.MaxTime-1 || b.m.Store().Size() != 4 {
		t.Error("14.2: times that may not be leave something")
	}
}

// The Done has Client and Seq of the command, of a time that may not be too; without a command it has neither.
func TestWhoOfDones(t *testing.T) {
	for client := range 101 {
		b := pair(t, 9)
		for i, seq := range []int{0, 1, api.MaxTime} {
			time := 1 + client*3 + i
			b.does("who", time, of(client, seq), api.OK)
			if d := b.m.Do(api.Entry{Time: time, Data: bytesOf(t, of(client, seq))}); d != (api.Done{Client: client, Seq: seq, Time: time, Code: int(api.ErrArg)}) {
				t.Error("14.2: who, of a time that was there", d)
			}
		}
		if d := b.m.Do(api.Entry{Time: -client, Data: "no command"}); d != (api.Done{Time: -client, Code: int(api.ErrArg)}) {
			t.Error("14.2: no one, of a time that may not be", d)
		}
	}
}

func TestForm(t *testing.T) {
	b := pair(t, 9)
	good := bytesOf(t, api.Command{Kind: 2, Client: 7, Seq: 9, Writes: puts("a")})
	wrong := []string{"", "x", "no command", good[1:], good[:len(good)-1], good + "\x00", good + good}
	for i := range len(good) {
		turned := []byte(good)
		turned[i] ^= 1
		wrong = append(wrong, string(turned))
	}
	for i, data := range wrong {
		if d := b.m.Do(api.Entry{Time: 1 + i, Data: data}); d != (api.Done{Time: 1 + i, Code: int(api.ErrForm)}) {
			t.Errorf("14.2: no command: %+v", d)
		}
		b.p.do(api.Entry{Time: 1 + i, Data: data})
	}
	alike(t, "what is no command", b.m, b.p)
	if len(b.m.Dones()) != len(wrong) || b.m.Time() != len(wrong) || b.m.Store().Size() != 0 {
		t.Error("14.2: what is no command is not one of Dones, or does something")
	}
	if d := b.entry(api.Entry{Time: 1000, Data: good}); d != (api.Done{Client: 7, Seq: 9, Time: 1000}) {
		t.Errorf("14.2: a command: %+v", d)
	}
}

func TestSeqs(t *testing.T) {
	for _, first := range []int{0, 1, 5, api.MaxTime - 1, api.MaxTime} {
		for _, client := range []int{1, 2, 99, 100} {
			b := pair(t, 9)
			b.does("the first Seq", 1, of(client, first), api.OK)
			b.does("the same Seq", 2, of(client, first), api.OK)
			for _, seq := range []int{0, first / 2, first - 1} {
				if seq >= 0 && seq < first {
					b.does("a Seq below", 3+b.m.Time(), of(client, seq), api.ErrTwice)
				}
			}
			b.does("the same Seq, once more", 20, of(client, first), api.OK)
			b.does("another client", 21, of(client%100+1, 0), api.OK)
			if first < api.MaxTime {
				b.does("one above", 22, of(client, first+1), api.OK)
				b.does("the first one again", 23, of(client, first), api.ErrTwice)
				b.does("the greatest one", 24, of(client, api.MaxTime), api.OK)
			}
		}
	}
}

// Of client 0 no Seq is held against another one.
func TestSeqsOfNobody(t *testing.T) {
	b := pair(t, 9)
	for i, seq := range []int{5, 5, 4, 0, 0, 6, 5} {
		c := stmt(i, puts("a")...)
		c.Seq = seq
		b.does("of nobody", i+1, c, api.OK)
		if b.m.Store().Size() != i+1 {
			t.Error("14.2: of nobody it was not done")
		}
	}
	late := stmt(7, puts("b")...)
	late.Seq, late.Deadline = 7, 1
	b.does("late, of nobody", 8, late, api.ErrLate)
	late.Deadline = 0
	b.does("the same Seq, of nobody", 9, late, api.OK)
}

// codes is a command for each Code that may be a client's last one, at time 10 of the machine that primed tells.
func codes() []coded {
	return []coded{
		{api.OK, api.Command{Snap: 9, Writes: puts("b")}},
		{api.ErrArg, api.Command{Snap: 10, Writes: puts("b")}},
		{api.ErrLate, api.Command{Snap: 9, Deadline: 9, Writes: puts("b")}},
		{api.ErrEarly, api.Command{Snap: 9, After: 11, Writes: puts("b")}},
		{api.ErrConflict, api.Command{Snap: 4, Keys: []string{"a"}, Writes: puts("b")}},
		{api.ErrFull, api.Command{Snap: 9, Writes: puts("b", "c", "d")}},
	}
}

type coded struct {
	code api.Errno
	c    api.Command
}

// primed is a machine of time 5 with one version of a, and room for two more.
func primed(t *testing.T) both {
	t.Helper()
	b := pair(t, 3)
	b.does("the first one", 5, stmt(0, puts("a")...), api.OK)
	return b
}

// A Seq that was there has the Code of that, whatever its command now is, and does nothing.
func TestSeqAgainHasItsCode(t *testing.T) {
	for _, x := range codes() {
		b := primed(t)
		x.c.Kind, x.c.Client, x.c.Seq = api.CmdStmt, 4, 8
		b.does("the first time", 10, x.c, x.code)
		was := versions(b.m.Store(), []int{5, 10, 99})
		for i, y := range codes() {
			y.c.Kind, y.c.Client, y.c.Seq = 1+i%5, 4, 8
			b.does("again", 20+i, y.c, x.code)
		}
		b.does("again, of a new view", 30, api.Command{Kind: api.CmdNone, Client: 4, Seq: 8}, x.code)
		b.does("a Seq below, of a new view", 31, api.Command{Kind: api.CmdNone, Client: 4, Seq: 7}, api.ErrTwice)
		for i, y := range codes() {
			y.c.Kind, y.c.Client, y.c.Seq = 1+i%5, 4, 7
			b.does("a Seq below", 40+i, y.c, api.ErrTwice)
		}
		b.does("again, behind these", 50, of(4, 8), x.code)
		if got := versions(b.m.Store(), []int{5, 10, 99}); got != was {
			t.Error("14.2: a Seq that was there has done something:", got)
		}
		b.does("one above", 60, of(4, 9), api.OK)
	}
}

// Of CmdNone no further check counts, and nothing is written; of each other kind they do.
func TestKinds(t *testing.T) {
	for kind := api.CmdNone; kind <= api.CmdFill; kind++ {
		for _, x := range codes() {
			b := primed(t)
			x.c.Kind, x.c.Client, x.c.Seq = kind, 2, 3
			if kind == api.CmdNone {
				x.code = api.OK
			}
			b.does("a kind", 10, x.c, x.code)
			size := 1
			if kind != api.CmdNone && x.code == api.OK {
				size = 2
			}
			if b.m.Store().Size() != size || b.m.Time() != 10 || len(b.m.Dones()) != 2 {
				t.Error("14.2: kind", kind, "versions", b.m.Store().Size())
			}
		}
	}
}

// single asks the Code of commands, each alone behind what is there already.
func single(b both, time int, of map[api.Errno][]api.Command) {
	b.t.Helper()
	for code, list := range of {
		for _, c := range list {
			c.Kind = api.CmdStmt
			b.copied().does(fmt.Sprintf("%+v", c), time, c, code)
		}
	}
}

func TestSnap(t *testing.T) {
	single(pair(t, 3), 10, map[api.Errno][]api.Command{
		api.OK:     {{Snap: 0}, {Snap: 8}, {Snap: 9}},
		api.ErrArg: {{Snap: 10}, {Snap: 11}, {Snap: api.MaxTime - 1}, {Snap: api.MaxTime}},
	})
	single(pair(t, 3), 1, map[api.Errno][]api.Command{
		api.OK:     {{Snap: 0}},
		api.ErrArg: {{Snap: 1}, {Snap: 2}},
	})
	single(pair(t, 3), api.MaxTime-1, map[api.Errno][]api.Command{
		api.OK:     {{Snap: 0}, {Snap: api.MaxTime - 2}},
		api.ErrArg: {{Snap: api.MaxTime - 1}, {Snap: api.MaxTime}},
	})
}

func TestDeadlineAndAfter(t *testing.T) {
	single(pair(t, 3), 10, map[api.Errno][]api.Command{
		api.OK:       {{Deadline: 0}, {Deadline: 10}, {Deadline: 11}, {Deadline: api.MaxTime}, {After: 0}, {After: 9}, {After: 10}, {Deadline: 10, After: 10}},
		api.ErrLate:  {{Deadline: 1}, {Deadline: 9}, {Deadline: 9, After: 9}, {Deadline: 9, After: 11}},
		api.ErrEarly: {{After: 11}, {After: api.MaxTime}, {After: 11, Deadline: 10}, {After: 11, Deadline: 0}},
	})
	single(pair(t, 3), api.MaxTime-1, map[api.Errno][]api.Command{
		api.OK:       {{Deadline: 0}, {Deadline: api.MaxTime - 1}, {Deadline: api.MaxTime}, {After: api.MaxTime - 1}},
		api.ErrLate:  {{Deadline: api.MaxTime - 2}},
		api.ErrEarly: {{After: api.MaxTime}},
	})
}

// written is a machine of time 20: key b has versions of times 5 and 10, c one of 5, d one of 5 and one of 15 that it is gone.
func written(t *testing.T) both {
	t.Helper()
	b := pair(t, 20)
	b.does("first", 5, stmt(0, puts("b", "c", "d")...), api.OK)
	b.does("then", 10, stmt(5, puts("b")...), api.OK)
	b.does("then", 15, stmt(10, dels("d", "never")...), api.OK)
	b.does("nothing", 20, stmt(15), api.OK)
	return b
}

func TestKeys(t *testing.T) {
	read := func(snap int, keys ...string) api.Command { return api.Command{Snap: snap, Keys: keys} }
	single(written(t), 30, map[api.Errno][]api.Command{
		api.OK: {
			read(10, "b"), read(11, "b"), read(29, "b"), read(5, "c"), read(15, "d"), read(16, "d"),
			read(0, "never"), read(0, ""), read(0, "a"), read(0, "b\x00"), read(0, "bb"), read(0, "B"), read(0, "\xff"),
			read(15, "b", "c", "d", "never"), read(5, "a", "c", "e"), read(0), {Snap: 0, Writes: puts("b", "c", "d")},
		},
		api.ErrConflict: {
			read(9, "b"), read(5, "b"), read(0, "b"), read(4, "c"), read(0, "c"), read(14, "d"), read(4, "d"),
			read(14, "b", "c", "d"), read(9, "b", "c"), read(9, "", "a", "b"), read(14, "a", "c", "d", "never"),
		},
	})
}

func TestRanges(t *testing.T) {
	read := func(snap int, ranges ...api.Range) api.Command { return api.Command{Snap: snap, Ranges: ranges} }
	span := func(lo, hi string) api.Range { return api.Range{Lo: lo, Hi: hi} }
	single(written(t), 30, map[api.Errno][]api.Command{
		api.OK: {
			read(15, span("", "")), read(10, span("", "d")), read(10, span("b", "c")), read(5, span("c", "d")), read(0, span("", "b")), read(15, span("d", "")),
			read(0, span("b\x00", "c")), read(0, span("d\x00", "")), read(0, span("e", "")), read(0, span("never", "never\x00")),
			read(0, span("c", "b")), read(0, span("z", "a")), read(0, span("b", "b")), read(0, span("d", "c")), read(0, span("d", "a"), span("c", "b")),
			read(0), read(10, span("a", "d"), span("e", "")), read(5, span("c", "d"), span("c", "d")),
		},
		api.ErrConflict: {
			read(14, span("", "")), read(9, span("", "d")), read(9, span("b", "c")), read(9, span("b", "b\x00")), read(4, span("c", "d")), read(4, span("bz", "cc")),
			read(14, span("d", "")), read(14, span("d", "e")), read(14, span("a", "")), read(0, span("", "c")), read(0, span("b", "")),
			read(0, span("", "b"), span("b", "a"), span("b", "c")), read(14, span("e", ""), span("d", "d\x00")), read(9, span("b", "c"), span("e", "")),
		},
	})
	single(written(t), 30, map[api.Errno][]api.Command{
		api.OK:          {{Snap: 10, Keys: []string{"b"}, Ranges: []api.Range{{Lo: "a", Hi: "d"}}}},
		api.ErrConflict: {{Snap: 10, Keys: []string{"d"}, Ranges: []api.Range{{Lo: "a", Hi: "d"}}}, {Snap: 10, Keys: []string{"b"}, Ranges: []api.Range{{Lo: "d", Hi: "e"}}}},
	})
}

// free is a machine with so many versions, of which a is there, g is gone, n never was; it has room for so many more.
func free(t *testing.T, more int) both {
	t.Helper()
	b := pair(t, 3+more)
	b.does("first", 5, stmt(0, puts("a", "g")...), api.OK)
	b.does("then", 10, stmt(5, dels("g", "n")...), api.OK)
	return b
}

func TestRoom(t *testing.T) {
	join := func(lists ...[]api.Write) api.Command { return stmt(10, slices.Concat(lists...)...) }
	for need, list := range [][]api.Command{
		{join(), join(dels("g")), join(dels("n")), join(dels("g", "n", "o"))},
		{join(puts("a")), join(puts("g")), join(puts("n")), join(dels("a")), join(dels("a", "g", "n")), join(puts("a"), dels("g", "n")), join(dels("g"), puts("n"))},
		{join(puts("a", "g")), join(dels("a"), puts("g")), join(puts("a"), dels("g"), puts("n")), join(dels("a", "g"), puts("n"), dels("o"))},
		{join(puts("a", "g", "n")), join(dels("a"), puts("g", "n")), join(dels("a"), puts("b", "c"), dels("g", "n"))},
	} {
		for more := range need + 2 {
			for _, c := range list {
				code := api.OK
				if need > more {
					code = api.ErrFull
				}
				b := free(t, more)
				b.does(fmt.Sprintf("room for %d, %+v", more, c.Writes), 20, c, code)
				if code == api.OK && b.m.Store().Size() != 3+need || code != api.OK && b.m.Store().Size() != 3 {
					t.Error("14.2: versions", b.m.Store().Size(), "of", c.Writes)
				}
			}
		}
	}
}

// All writes are done, at Time, and nothing else.
func TestWrites(t *testing.T) {
	b := pair(t, 30)
	b.does("puts", 5, stmt(0, api.Write{Key: ""}, api.Write{Key: "a", Val: "1"}, api.Write{Key: "b", Val: "2"}, api.Write{Key: "\xff", Val: "\x00"}), api.OK)
	b.does("all of it", 9, stmt(5, api.Write{Key: "", Del: true}, api.Write{Key: "a", Val: ""}, api.Write{Key: "c", Val: "3"}, api.Write{Key: "d", Del: true}), api.OK)
	s := b.m.Store()
	for time, want := range map[int]string{
		4: `[]`,
		5: `[{"" ""} {"a" "1"} {"b" "2"} {"\xff" "\x00"}]`,
		8: `[{"" ""} {"a" "1"} {"b" "2"} {"\xff" "\x00"}]`,
		9: `[{"a" ""} {"b" "2"} {"c" "3"} {"\xff" "\x00"}]`,
	} {
		if got := fmt.Sprintf("%q", s.Scan(time, "", "", 99)); got != want {
			t.Errorf("14.2: at %d: %s, not %s", time, got, want)
		}
	}
	if s.Last("") != 9 || s.Last("a") != 9 || s.Last("b") != 5 || s.Last("d") != 0 || s.Size() != 7 {
		t.Error("14.2: versions that were not asked for")
	}
}

// fault is what may be wrong with an entry, and the Code of it.
type fault struct {
	code api.Errno
	put  func(time *int, c *api.Command)
}

// faults are in the order of 14.2, of the machine that faulty tells, and a command that is OK at time 30 there. ErrForm is told by a mark in Text.
func faults() []fault {
	return []fault{
		{api.ErrArg, func(time *int, c *api.Command) { *time = 20 }},
		{api.ErrForm, func(time *int, c *api.Command) { c.Text = "spoil" }},
		{api.ErrEarly, func(time *int, c *api.Command) { c.Seq = 5 }},
		{api.ErrTwice, func(time *int, c *api.Command) { c.Seq = min(c.Seq, 4) }},
		{api.OK, func(time *int, c *api.Command) { c.Kind = api.CmdNone }},
		{api.ErrArg, func(time *int, c *api.Command) { c.Snap = 30 }},
		{api.ErrLate, func(time *int, c *api.Command) { c.Deadline = 29 }},
		{api.ErrEarly, func(time *int, c *api.Command) { c.After = 31 }},
		{api.ErrConflict, func(time *int, c *api.Command) {
			c.Keys = []string{"a"}
			c.Snap = min(c.Snap, 9)
		}},
		{api.ErrFull, func(time *int, c *api.Command) { c.Writes = puts("c", "d", "e") }},
	}
}

func faulty(t *testing.T) both {
	t.Helper()
	b := pair(t, 4)
	b.does("writes", 10, stmt(0, puts("a", "b")...), api.OK)
	b.does("early", 20, api.Command{Kind: api.CmdStmt, Client: 7, Seq: 5, After: 99}, api.ErrEarly)
	return b
}

// Of each choice of faults the first one counts, and what is not OK leaves the store as it was.
func TestOrder(t *testing.T) {
	all := faults()
	const form, same, below, none, snap = 1, 2, 3, 4, 5
	for choice := range 1 << len(all) {
		has := func(i int) bool { return choice>>i&1 == 1 }
		// These two of each pair can't be at once: a Seq that is the same and below; a Snap at Time, and what changed behind it.
		if has(same) && has(below) || has(snap) && has(8) {
			continue
		}
		time, c := 30, api.Command{Kind: api.CmdStmt, Client: 7, Seq: 6, Snap: 20, Ranges: []api.Range{{Lo: "b"}}, Writes: puts("c")}
		want, first := api.OK, len(all)
		for i := len(all) - 1; i >= 0; i-- {
			if has(i) {
				all[i].put(&time, &c)
				want, first = all[i].code, i
			}
		}
		b := faulty(t)
		was := versions(b.m.Store(), []int{9, 10, 99})
		data, done := bytesOf(t, c), api.Done{Client: 7, Seq: c.Seq, Time: time, Code: int(want)}
		if has(form) {
			data, done.Client, done.Seq = data[1:], 0, 0
		}
		if got := b.entry(api.Entry{Time: time, Data: data}); got != done {
			t.Fatalf("14.2: faults %b: %+v, not %+v", choice, got, done)
		}
		if now := versions(b.m.Store(), []int{9, 10, 99}); (now == was) != (first < len(all)) {
			t.Errorf("14.4: faults %b: the store was %s and is %s", choice, was, now)
		}
		if n := len(b.m.Dones()); (n == 2) != (first == 0) || (b.m.Time() == 20) != (first == 0) {
			t.Errorf("14.2: faults %b: %d Dones", choice, n)
		}
		lastOne(b, choice, first > none, int(want))
	}
}

// lastOne asks whether the last command was its client's last one, with that Code; else that is still the one of Seq 5.
func lastOne(b both, choice int, is bool, code int) {
	b.t.Helper()
	if !is {
		b.copied().does("the one ahead again", 40, of(7, 5), api.ErrEarly)
		b.copied().does("one above it", 40, of(7, 6), api.OK)
		return
	}
	b.copied().does("that one again", 40, of(7, 6), api.Errno(code))
	b.copied().does("the one ahead", 40, of(7, 5), api.ErrTwice)
}

// Which Dones there are, and which of them is a client's last one.
func TestLastOnes(t *testing.T) {
	b := primed(t)
	b.does("the first", 10, api.Command{Kind: 2, Client: 1, Seq: 5, Deadline: 9}, api.ErrLate)
	b.does("a Seq below", 11, of(1, 4), api.ErrTwice)
	b.does("the Seq below, which is still none", 12, of(1, 4), api.ErrTwice)
	b.does("the first, again", 13, of(1, 5), api.ErrLate)
	b.does("above, of a new view", 14, api.Command{Kind: api.CmdNone, Client: 1, Seq: 50}, api.OK)
	b.does("the first, behind a new view", 15, of(1, 5), api.ErrLate)
	b.entry(api.Entry{Time: 16, Data: "no command"})
	b.does("the first, behind no command", 17, of(1, 5), api.ErrLate)
	b.does("above, at a time that was there", 17, of(1, 60), api.ErrArg)
	b.does("above, at a time that may not be", api.MaxTime, of(1, 60), api.ErrArg)
	b.does("the first, behind ErrArg", 18, of(1, 5), api.ErrLate)
	b.does("above, ErrArg by its Snap", 19, api.Command{Kind: 2, Client: 1, Seq: 7, Snap: 19}, api.ErrArg)
	b.does("that one again", 20, of(1, 7), api.ErrArg)
	b.does("the first, behind it", 21, of(1, 5), api.ErrTwice)
	b.does("another client", 22, of(2, 5), api.OK)
	b.does("a new view, of a client of its own", 23, api.Command{Kind: api.CmdNone, Client: 3, Seq: 9}, api.OK)
	b.does("that client's first", 24, api.Command{Kind: 2, Client: 3, Seq: 0, After: 99}, api.ErrEarly)
	b.does("and again", 25, of(3, 0), api.ErrEarly)
	var times []int
	for _, d := range b.m.Dones() {
		times = append(times, d.Time)
	}
	if want := []int{5, 10, 11, 12, 13, 14, 15, 16, 17, 18, 19, 20, 21, 22, 23, 24, 25}; !slices.Equal(times, want) {
		t.Error("14.2: Dones are of", times)
	}
}

// 14.3

func TestAnswer(t *testing.T) {
	b := primed(t)
	b.does("of nobody", 10, api.Command{Kind: 2, Seq: 3}, api.OK)
	b.does("early", 11, api.Command{Kind: 2, Client: 1, Seq: 3, After: 99}, api.ErrEarly)
	b.does("again", 12, of(1, 3), api.ErrEarly)
	b.does("below", 13, of(1, 2), api.ErrTwice)
	b.does("above", 14, of(1, 4), api.OK)
	b.does("below by now", 15, of(1, 3), api.ErrTwice)
	b.does("a new view", 16, api.Command{Kind: api.CmdNone, Client: 2, Seq: 8}, api.OK)
	b.does("its Seq, late", 17, api.Command{Kind: 2, Client: 2, Seq: 8, Deadline: 1}, api.ErrLate)
	b.does("Seq 0", 18, of(100, 0), api.OK)
	b.does("a time that was there", 18, of(4, 1), api.ErrArg)
	b.does("ErrArg by its Snap", 19, api.Command{Kind: 2, Client: 5, Seq: 1, Snap: 99}, api.ErrArg)
	b.entry(api.Entry{Time: 20, Data: "no command"})
	for _, want := range []api.Done{
		{Client: 1, Seq: 3, Time: 11, Code: int(api.ErrEarly)},
		{Client: 1, Seq: 4, Time: 14},
		{Client: 2, Seq: 8, Time: 16},
		{Client: 100, Seq: 0, Time: 18},
		{Client: 5, Seq: 1, Time: 19, Code: int(api.ErrArg)},
	} {
		if d, ok := b.m.Answer(want.Client, want.Seq); d != want || !ok {
			t.Errorf("14.3: Answer is %+v %v, not %+v", d, ok, want)
		}
	}
	for _, x := range [][2]int{
		{0, 0}, {0, 3}, {-1, 3}, {-1, 0}, {math.MinInt, 0}, {1, 2}, {1, 5}, {1, 0}, {1, -3}, {2, 3}, {3, 8}, {4, 1}, {4, 0}, {100, 1}, {101, 0},
		{math.MaxInt, 0}, {1, math.MaxInt}, {1, math.MinInt}, {1 + 1<<32, 3}, {1, 3 + 1<<32},
	} {
		if d, ok := b.m.Answer(x[0], x[1]); ok || d != (api.Done{}) {
			t.Errorf("14.3: Answer of %v is %+v", x, d)
		}
	}
}

// A Seq that was only ever too low has no answer; one of a new view has the Done of that, though it is too low behind it.
func TestAnswerBesideTwice(t *testing.T) {
	b := pair(t, 9)
	b.does("Seq 5", 1, of(1, 5), api.OK)
	b.does("Seq 4", 2, of(1, 4), api.ErrTwice)
	if d, ok := b.m.Answer(1, 4); ok || d != (api.Done{}) {
		t.Error("14.3: an answer of ErrTwice", d)
	}
	b.does("Seq 4, of a new view", 3, api.Command{Client: 1, Seq: 4}, api.ErrTwice)
	if d, ok := b.m.Answer(1, 4); ok || d != (api.Done{}) {
		t.Error("14.3: an answer of ErrTwice", d)
	}
	b.does("Seq 6, of a new view", 4, api.Command{Client: 1, Seq: 6}, api.OK)
	b.does("Seq 7", 5, of(1, 7), api.OK)
	b.does("Seq 6, too low by now", 6, of(1, 6), api.ErrTwice)
	if d, ok := b.m.Answer(1, 6); !ok || d != (api.Done{Client: 1, Seq: 6, Time: 4}) {
		t.Error("14.3: the answer of a new view", d)
	}
}

// Store is the machine's own, and stays the one that was told.
func TestStoreItself(t *testing.T) {
	b := pair(t, 2)
	s := b.m.Store()
	b.does("a write", 1, stmt(0, puts("a")...), api.OK)
	b.does("and one that is refused", 2, stmt(2, puts("b")...), api.ErrArg)
	b.does("another one", 3, stmt(1, dels("a")...), api.OK)
	if s != b.m.Store() || s.Size() != 2 || s.Last("a") != 3 {
		t.Error("14.3: Store tells another one")
	}
	b.does("one too many", 4, stmt(3, puts("c")...), api.ErrFull)
	if s.Trim(4) != 2 || b.m.Store().Size() != 0 {
		t.Error("14.3: Store tells a copy")
	}
	// What the store lets go is room for others.
	if d := b.m.Do(api.Entry{Time: 5, Data: bytesOf(t, stmt(4, puts("c", "d")...))}); d.Code != int(api.OK) || s.Size() != 2 {
		t.Error("14.3: behind a Trim", d)
	}
}

func TestDonesAreNew(t *testing.T) {
	b := written(t)
	for range 3 {
		list := b.m.Dones()
		list = list[:cap(list)]
		for i := range list {
			list[i] = api.Done{Client: 9, Seq: 9, Time: 9, Code: 9}
		}
		alike(t, "R3: what was told is written over", b.m, b.p)
	}
	one, other := b.m.Dones(), b.m.Dones()
	grown := append(one[:1], api.Done{Code: 9})
	if grown[1].Code != 9 || !slices.Equal(other, b.p.dones()) {
		t.Error("R3: two lists that were told share memory")
	}
	was := b.m.Dones()
	kept := slices.Clone(was)
	_ = append(was, api.Done{Code: 9})
	b.does("more", 40, stmt(20, puts("q")...), api.OK)
	if !slices.Equal(was, kept) {
		t.Error("R3: a list that was told changes later")
	}
}

func TestCopy(t *testing.T) {
	one := written(t)
	one.does("of a client", 21, api.Command{Kind: 2, Client: 1, Seq: 5, After: 99}, api.ErrEarly)
	was := dump(one.m)
	other := one.copied()
	if one.m == other.m || one.m.Store() == other.m.Store() || dump(other.m) != was {
		t.Error("14.3: a Copy is not the same, or is no other one")
	}
	alike(t, "a copy", other.m, other.p)
	other.does("the same Seq, in the copy", 30, of(1, 5), api.ErrEarly)
	other.does("a Seq above, in the copy", 31, api.Command{Kind: 2, Client: 1, Seq: 9, Snap: 30, Writes: puts("b", "z")}, api.OK)
	other.does("a new client, in the copy", 32, of(2, 9), api.OK)
	if dump(one.m) != was {
		t.Error("14.3: what is done to the copy the first one sees")
	}
	then := dump(other.m)
	one.does("a Seq between, in the first one", 22, api.Command{Kind: 2, Client: 1, Seq: 7, Snap: 21, Writes: dels("b", "c")}, api.OK)
	one.does("that client, in the first one", 23, of(2, 3), api.OK)
	if dump(other.m) != then {
		t.Error("14.3: what is done to the first one the copy sees")
	}
	third := other.copied()
	third.does("in a copy of the copy", 40, of(1, 9), api.OK)
	if dump(other.m) != then {
		t.Error("14.3: what is done to a copy's copy the copy sees")
	}
}

// A copy has the room, and the time, of the first one, from the very beginning on.
func TestCopyRoom(t *testing.T) {
	one := pair(t, 2)
	other := one.copied()
	other.does("one of two", 7, stmt(0, puts("a")...), api.OK)
	third := other.copied()
	third.does("a time that was there", 7, stmt(0, puts("b")...), api.ErrArg)
	third.does("too many", 8, stmt(7, puts("b", "c")...), api.ErrFull)
	third.does("two of two", 9, stmt(7, puts("b")...), api.OK)
	third.does("three of two", 10, stmt(9, puts("b")...), api.ErrFull)
	other.does("two of two", 8, stmt(7, puts("c")...), api.OK)
	one.does("two at once", 1, stmt(0, puts("a", "b")...), api.OK)
}

func TestNil(t *testing.T) {
	var none *Machine
	good := bytesOf(t, of(1, 1))
	for _, e := range []api.Entry{{}, {Time: 5}, {Time: 5, Data: good}, {Time: -1, Data: good}, {Time: api.MaxTime, Data: "x"}} {
		if d := none.Do(e); d != (api.Done{Code: int(api.ErrNone)}) {
			t.Errorf("14: Do of nil: %+v", d)
		}
	}
	if d, ok := none.Answer(1, 1); ok || d != (api.Done{}) {
		t.Error("14: Answer of nil", d)
	}
	if none.Dones() != nil || none.Time() != 0 || none.Store() != nil || none.Copy() != nil {
		t.Error("14: methods of nil")
	}
}

// R1: a machine that New did not make does not panic: it has no room, and no store.
func TestNotMade(t *testing.T) {
	m := &Machine{}
	for i, x := range []struct {
		c    api.Command
		code api.Errno
	}{
		{of(1, 1), api.OK},
		{stmt(0, puts("a")...), api.ErrFull},
		{stmt(0, dels("a")...), api.OK},
		{api.Command{Kind: 2, Keys: []string{"a"}, Ranges: []api.Range{{}}}, api.OK},
	} {
		if d := m.Do(api.Entry{Time: i + 1, Data: bytesOf(t, x.c)}); d.Code != int(x.code) {
			t.Error("R1: not made:", i, d)
		}
	}
	c := m.Copy()
	var s *store.Store
	if _, ok := m.Answer(1, 1); !ok || m.Time() != 4 || len(c.Dones()) != 4 || m.Store() != s || c.Store() != s {
		t.Error("R1: not made")
	}
}
