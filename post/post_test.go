package post

import (
	"fmt"
	"math"
	"math/rand"
	"slices"
	"strings"
	"testing"

	"falsework/api"
)

// numbered makes a message whose every part tells n, and no two parts the same.
func numbered(n int) api.Message {
	return api.Message{
		Kind:   10*n + 1,
		From:   10*n + 2,
		To:     10*n + 3,
		View:   10*n + 4,
		Index:  10*n + 5,
		Commit: 10*n + 6,
		Normal: 10*n + 7,
		Log:    []api.Entry{{Time: 10*n + 8, Data: fmt.Sprint("one of ", n)}, {Time: 10*n + 9, Data: fmt.Sprint("two of ", n)}},
	}
}

// list makes messages, numbered from a number on.
func list(long, from int) []api.Message {
	var l []api.Message
	for i := range long {
		l = append(l, numbered(from+i))
	}
	return l
}

// named makes messages of a text, one a byte, which is all that they differ in.
func named(text string) []api.Message {
	var l []api.Message
	for i := range len(text) {
		l = append(l, api.Message{Kind: api.MsgPrepare, Log: []api.Entry{{Time: 1, Data: text[i : i+1]}}})
	}
	return l
}

// names tells the text that named would make l of.
func names(l []api.Message) string {
	s := ""
	for _, m := range l {
		s += m.Log[0].Data
	}
	return s
}

// alike tells whether two messages are, in every part.
func alike(a, b api.Message) bool {
	return a.Kind == b.Kind && a.From == b.From && a.To == b.To && a.View == b.View &&
		a.Index == b.Index && a.Commit == b.Commit && a.Normal == b.Normal && slices.Equal(a.Log, b.Log)
}

// same tells whether lists are, message by message.
func same(l, want []api.Message) bool {
	return slices.EqualFunc(l, want, alike)
}

// deepOne copies a message, with just the room that its Log needs.
func deepOne(m api.Message) api.Message {
	log := make([]api.Entry, len(m.Log))
	copy(log, m.Log)
	m.Log = log
	return m
}

// deep copies messages, with just the room that they need.
func deep(l []api.Message) []api.Message {
	ms := make([]api.Message, 0, len(l))
	for _, m := range l {
		ms = append(ms, deepOne(m))
	}
	return ms
}

// addByWords is 9.1 by its words: one by one, while there are fewer than 400.
func addByWords(l, more []api.Message) []api.Message {
	all := deep(l)
	for _, m := range more {
		if len(all) < 400 {
			all = append(all, deepOne(m))
		}
	}
	return all
}

// takeByWords is 9.2 by its words: all are gone through, and the one at i goes elsewhere.
func takeByWords(l []api.Message, i int) (api.Message, []api.Message, api.Errno) {
	e := api.ErrNone
	var taken api.Message
	var others []api.Message
	for at, m := range l {
		if at == i {
			taken, e = deepOne(m), api.OK
		} else {
			others = append(others, deepOne(m))
		}
	}
	if e != api.OK {
		return taken, nil, e
	}
	return taken, others, e
}

// doubleByWords is 9.3 by its words.
func doubleByWords(l []api.Message, i int) ([]api.Message, api.Errno) {
	m, _, e := takeByWords(l, i)
	if e != api.OK {
		return nil, e
	}
	return addByWords(l, []api.Message{m}), e
}

// places tells places of a list of so many: below 0, within, at its end and behind it.
func places(long int) []int {
	at := []int{
		math.MinInt, math.MinInt + 1, -1 << 40, -1 << 32, -long - 1, -long, 1 - long, -2, -1,
		0, 1, 2, long / 2, long - 2, long - 1, long, long + 1, 2 * long, 1 << 32, 1 << 40, math.MaxInt - 1, math.MaxInt,
	}
	slices.Sort(at)
	return slices.Compact(at)
}

// lengths are those of lists on both sides of MaxNet, and far from it.
func lengths() []int {
	return []int{0, 1, 2, 3, 199, 200, 201, api.MaxNet - 2, api.MaxNet - 1, api.MaxNet, api.MaxNet + 1, api.MaxNet + 2, 2 * api.MaxNet, 1000}
}

// 9.1

func TestAddOfFew(t *testing.T) {
	for _, c := range []struct{ l, more, want string }{
		{"", "", ""},
		{"a", "", "a"},
		{"", "a", "a"},
		{"a", "b", "ab"},
		{"b", "a", "ba"},
		{"abc", "", "abc"},
		{"", "abc", "abc"},
		{"abc", "de", "abcde"},
		{"ab", "ab", "abab"},
		{"aa", "a", "aaa"},
	} {
		if got := names(Add(named(c.l), named(c.more))); got != c.want {
			t.Errorf("9.1: Add of %q and %q: %q, not %q", c.l, c.more, got, c.want)
		}
	}
}

func TestAddUpToMaxNet(t *testing.T) {
	if api.MaxNet != 400 {
		t.Fatal("the numbers below are those of a MaxNet of 400")
	}
	for _, c := range []struct{ l, more, kept int }{
		{200, 199, 199}, {200, 200, 200}, {200, 201, 200},
		{0, 399, 399}, {0, 400, 400}, {0, 401, 400}, {0, 1000, 400},
		{1, 398, 398}, {1, 399, 399}, {1, 400, 399},
		{398, 0, 0}, {398, 1, 1}, {398, 2, 2}, {398, 3, 2}, {398, 500, 2},
		{399, 0, 0}, {399, 1, 1}, {399, 2, 1}, {399, 500, 1},
		{400, 0, 0}, {400, 1, 0}, {400, 500, 0},
		{401, 0, 0}, {401, 1, 0}, {401, 500, 0},
		{1000, 0, 0}, {1000, 1, 0}, {1000, 500, 0},
	} {
		l, more := list(c.l, 0), list(c.more, 5000)
		got := Add(l, more)
		if len(got) != c.l+c.kept {
			t.Errorf("9.1: Add of %d and %d: %d, not %d", c.l, c.more, len(got), c.l+c.kept)
			continue
		}
		if !same(got[:c.l], list(c.l, 0)) {
			t.Errorf("9.1: Add of %d and %d: those of l are not ahead, all of them and in order", c.l, c.more)
		}
		if !same(got[c.l:], list(c.kept, 5000)) {
			t.Errorf("9.1: Add of %d and %d: not the first %d of more, in order, are behind", c.l, c.more, c.kept)
		}
	}
}

func TestAddByWords(t *testing.T) {
	for _, a := range lengths() {
		for _, b := range lengths() {
			l, more := list(a, 0), list(b, 5000)
			if got := Add(l, more); !same(got, addByWords(l, more)) {
				t.Errorf("9.1: Add of %d and %d: %d messages, or others than those", a, b, len(got))
			}
		}
	}
}

// One message after the other goes under way, until there is no room.
func TestAddOneByOne(t *testing.T) {
	var l []api.Message
	for n := range api.MaxNet + 50 {
		l = Add(l, list(1, n))
		if want := list(min(n+1, api.MaxNet), 0); !same(l, want) {
			t.Fatalf("9.1: behind %d times Add of one there are %d, or others than those", n+1, len(l))
		}
	}
}

// 9.2

func TestExample(t *testing.T) {
	m, others, e := Take(list(1, 7), 0)
	if e != api.OK || !alike(m, numbered(7)) || len(others) != 0 {
		t.Errorf("9.2: Take of one message at 0: %v, %v, %d", m, others, e)
	}
}

func TestTakeOfFew(t *testing.T) {
	for _, c := range []struct {
		l       string
		i       int
		m, want string
	}{
		{"a", 0, "a", ""},
		{"ab", 0, "a", "b"},
		{"ab", 1, "b", "a"},
		{"abcde", 0, "a", "bcde"},
		{"abcde", 1, "b", "acde"},
		{"abcde", 2, "c", "abde"},
		{"abcde", 3, "d", "abce"},
		{"abcde", 4, "e", "abcd"},
		{"aba", 0, "a", "ba"},
		{"aba", 2, "a", "ab"},
	} {
		m, others, e := Take(named(c.l), c.i)
		if e != api.OK || m.Log[0].Data != c.m || names(others) != c.want {
			t.Errorf("9.2: Take of %q at %d: %v, %v, %d", c.l, c.i, m, others, e)
		}
	}
}

func TestTakeByWords(t *testing.T) {
	for _, long := range lengths() {
		for _, i := range places(long) {
			l := list(long, 0)
			m, others, e := Take(l, i)
			wantM, want, wantE := takeByWords(l, i)
			if e != wantE || !alike(m, wantM) || !same(others, want) {
				t.Errorf("9.2: Take of %d at %d: %v, %d others, %d; not %v, %d, %d", long, i, m, len(others), e, wantM, len(want), wantE)
			}
		}
	}
}

// zero fails unless a message has nothing in any part.
func zero(t *testing.T, what string, m api.Message) {
	t.Helper()
	if !alike(m, api.Message{}) {
		t.Errorf("R4: %s: beside ErrNone a message: %v", what, m)
	}
}

func TestNoSuchPlace(t *testing.T) {
	for _, long := range []int{0, 1, 2, 5, api.MaxNet - 1, api.MaxNet, api.MaxNet + 1} {
		l := list(long, 0)
		for _, i := range places(long) {
			if i >= 0 && i < long {
				continue
			}
			what := fmt.Sprintf("%d messages, place %d", long, i)
			m, others, e := Take(l, i)
			if e != api.ErrNone {
				t.Errorf("9.2: %s: Take: %d, not ErrNone", what, e)
			}
			zero(t, what, m)
			d, f := Double(l, i)
			if f != api.ErrNone {
				t.Errorf("9.3: %s: Double: %d, not ErrNone", what, f)
			}
			if len(others) != 0 || len(d) != 0 {
				t.Errorf("R4: %s: beside ErrNone %d others and %d doubled", what, len(others), len(d))
			}
			if !same(l, list(long, 0)) {
				t.Errorf("R4: %s: what was handed in has changed", what)
			}
		}
	}
}

// What is behind the end of a list, where it has room, is not at a place of it.
func TestNoPlaceInSpareRoom(t *testing.T) {
	for long := range 5 {
		l := list(5, 0)[:long]
		for i := long; i < 7; i++ {
			m, others, e := Take(l, i)
			d, f := Double(l, i)
			if e != api.ErrNone || f != api.ErrNone || len(others) != 0 || len(d) != 0 {
				t.Errorf("R3: the first %d of 5, place %d: %d, %d", long, i, e, f)
			}
			zero(t, "spare room", m)
		}
	}
}

// All are taken, in every order of few.
func TestTakeUntilNoneIsLeft(t *testing.T) {
	var empty func(l []api.Message, taken string)
	runs := 0
	empty = func(l []api.Message, taken string) {
		if len(l) == 0 {
			runs++
			bytes := strings.Split(taken, "")
			slices.Sort(bytes)
			if strings.Join(bytes, "") != "abcde" {
				t.Errorf("9.2: taken one by one: %q", taken)
			}
			return
		}
		for i := range l {
			m, others, e := Take(l, i)
			if e != api.OK || len(others) != len(l)-1 {
				t.Fatalf("9.2: Take of %d at %d: %d others, %d", len(l), i, len(others), e)
			}
			empty(others, taken+m.Log[0].Data)
		}
	}
	empty(named("abcde"), "")
	if runs != 120 {
		t.Errorf("9.2: %d orders, not 120", runs)
	}
}

// 9.3

func TestDoubleOfFew(t *testing.T) {
	for _, c := range []struct {
		l    string
		i    int
		want string
	}{
		{"a", 0, "aa"},
		{"ab", 0, "aba"},
		{"ab", 1, "abb"},
		{"abcde", 0, "abcdea"},
		{"abcde", 2, "abcdec"},
		{"abcde", 4, "abcdee"},
		{"aaa", 1, "aaaa"},
	} {
		got, e := Double(named(c.l), c.i)
		if e != api.OK || names(got) != c.want {
			t.Errorf("9.3: Double of %q at %d: %q, %d", c.l, c.i, names(got), e)
		}
	}
}

func TestDoubleUpToMaxNet(t *testing.T) {
	for _, c := range []struct{ long, want int }{{398, 399}, {399, 400}, {400, 400}, {401, 401}, {1000, 1000}} {
		for _, i := range []int{0, 1, 200, c.long - 1} {
			got, e := Double(list(c.long, 0), i)
			if e != api.OK || len(got) != c.want {
				t.Errorf("9.3: Double of %d at %d: %d messages, %d", c.long, i, len(got), e)
				continue
			}
			if !same(got[:c.long], list(c.long, 0)) {
				t.Errorf("9.3: Double of %d at %d: those of l are not ahead", c.long, i)
			}
			if !same(got[c.long:], list(c.want-c.long, i)) {
				t.Errorf("9.3: Double of %d at %d: behind is not that message", c.long, i)
			}
		}
	}
}

func TestDoubleByWords(t *testing.T) {
	for _, long := range lengths() {
		for _, i := range places(long) {
			l := list(long, 0)
			got, e := Double(l, i)
			want, wantE := doubleByWords(l, i)
			if e != wantE || !same(got, want) {
				t.Errorf("9.3: Double of %d at %d: %d messages, %d; not %d, %d", long, i, len(got), e, len(want), wantE)
			}
			if e == api.OK && !same(got, Add(l, []api.Message{numbered(i)})) {
				t.Errorf("9.3: Double of %d at %d is not Add of l and that message", long, i)
			}
		}
	}
}

// Messages of all kinds

// unlike makes messages that differ from the first one in one part each.
func unlike() []api.Message {
	first := numbered(3)
	l := []api.Message{first}
	turn := func(f func(m *api.Message)) {
		m := deepOne(first)
		f(&m)
		l = append(l, m)
	}
	turn(func(m *api.Message) { m.Kind = -1 })
	turn(func(m *api.Message) { m.From = math.MinInt })
	turn(func(m *api.Message) { m.To = math.MaxInt })
	turn(func(m *api.Message) { m.View = api.MaxTime })
	turn(func(m *api.Message) { m.Index = -2 })
	turn(func(m *api.Message) { m.Commit = 1 << 40 })
	turn(func(m *api.Message) { m.Normal = 0 })
	turn(func(m *api.Message) { m.Log = nil })
	turn(func(m *api.Message) { m.Log = m.Log[:1] })
	turn(func(m *api.Message) { m.Log[0].Time = -5 })
	turn(func(m *api.Message) { m.Log[1].Data = "\x00\xff" })
	turn(func(m *api.Message) { m.Log[1], m.Log[0] = m.Log[0], m.Log[1] })
	turn(func(m *api.Message) { m.Log = append(m.Log, api.Entry{Time: 1, Data: strings.Repeat("x", 20001)}) })
	turn(func(m *api.Message) { m.Log = make([]api.Entry, api.MaxLog+1) })
	return append(l, api.Message{})
}

// Nothing is asked of a message, and no part of it is lost.
func TestEveryPartIsKept(t *testing.T) {
	l := unlike()
	for i := range l {
		for j := range l {
			if i != j && alike(l[i], l[j]) {
				t.Fatalf("messages %d and %d are alike", i, j)
			}
		}
	}
	if got := Add(l, l); !same(got[:len(l)], unlike()) || !same(got[len(l):], unlike()) {
		t.Error("9.1: Add of unlike messages turns one")
	}
	for i, x := range unlike() {
		m, others, e := Take(l, i)
		if e != api.OK || !alike(m, x) || !same(others, slices.Delete(unlike(), i, i+1)) {
			t.Errorf("9.2: Take of unlike messages at %d: %d, or one is turned", i, e)
		}
		got, e := Double(l, i)
		if e != api.OK || !same(got, append(unlike(), x)) {
			t.Errorf("9.3: Double of unlike messages at %d: %d, or one is turned", i, e)
		}
	}
}

// Messages that are alike are still several.
func TestAlikeMessages(t *testing.T) {
	for long := 1; long < 6; long++ {
		var l []api.Message
		for range long {
			l = append(l, numbered(4))
		}
		for i := range long {
			m, others, e := Take(l, i)
			if e != api.OK || !alike(m, numbered(4)) || !same(others, l[1:]) {
				t.Errorf("9.2: Take of %d alike at %d: %d others, %d", long, i, len(others), e)
			}
			got, e := Double(l, i)
			if e != api.OK || !same(got, append(deep(l), numbered(4))) {
				t.Errorf("9.3: Double of %d alike at %d: %d, %d", long, i, len(got), e)
			}
		}
		if got := Add(l, l); !same(got, append(deep(l), l...)) {
			t.Errorf("9.1: Add of %d alike and the same: %d", long, len(got))
		}
	}
}

// A list without messages is one, whether nil or not, and with or without spare room.
func TestNilAndEmptyAreOne(t *testing.T) {
	none := [][]api.Message{nil, {}, list(3, 0)[:0]}
	for i, l := range none {
		for j, more := range none {
			if got := Add(l, more); len(got) != 0 {
				t.Errorf("R3: Add of none (%d, %d): %v", i, j, got)
			}
		}
		if got := Add(l, list(2, 0)); !same(got, list(2, 0)) {
			t.Errorf("R3: Add of none (%d) and two: %v", i, got)
		}
		if got := Add(list(2, 0), l); !same(got, list(2, 0)) {
			t.Errorf("R3: Add of two and none (%d): %v", i, got)
		}
	}
	for i, log := range [][]api.Entry{nil, {}, numbered(1).Log[:0]} {
		l := []api.Message{{Kind: 1, Log: log}}
		m, _, e := Take(l, 0)
		d, f := Double(l, 0)
		if e != api.OK || f != api.OK || !alike(m, api.Message{Kind: 1}) || !same(d, []api.Message{{Kind: 1}, {Kind: 1}}) {
			t.Errorf("R3: a message without entries (%d): %v, %v", i, m, d)
		}
	}
}

// 9.4

// drawn makes a message of few values, so that others are like it.
func drawn(r *rand.Rand) api.Message {
	m := api.Message{Kind: r.Intn(3), From: r.Intn(2), To: r.Intn(2), View: r.Intn(2), Index: r.Intn(2), Commit: r.Intn(2), Normal: r.Intn(2)}
	for range r.Intn(3) {
		m.Log = append(m.Log, api.Entry{Time: r.Intn(2), Data: string("ab"[r.Intn(2)])})
	}
	return m
}

// under is a net beside the plain list that it must be, and all that was put in.
type under struct {
	t     *testing.T
	net   []api.Message
	plain []api.Message
	put   map[string]int // how often each message was put in or doubled, and not yet taken
	done  string         // the acts so far
}

func key(m api.Message) string { return fmt.Sprintf("%+v", m) }

func (u *under) add(more []api.Message) {
	u.done += fmt.Sprintf(" Add(%d)", len(more))
	for _, m := range more {
		u.put[key(m)]++
	}
	u.net = Add(u.net, more)
	u.plain = addByWords(u.plain, more)
}

func (u *under) take(i int) {
	u.done += fmt.Sprintf(" Take(%d)", i)
	m, others, e := Take(u.net, i)
	wantM, want, wantE := takeByWords(u.plain, i)
	if e != wantE || !alike(m, wantM) || !same(others, want) {
		u.t.Fatalf("9.2:%s: %v, %d others, %d; not %v, %d, %d", u.done, m, len(others), e, wantM, len(want), wantE)
	}
	if e != api.OK {
		return
	}
	if u.put[key(m)]--; u.put[key(m)] < 0 {
		u.t.Fatalf("9.4:%s: taken more often than put in: %v", u.done, m)
	}
	u.net, u.plain = others, want
}

func (u *under) double(i int) {
	u.done += fmt.Sprintf(" Double(%d)", i)
	got, e := Double(u.net, i)
	want, wantE := doubleByWords(u.plain, i)
	if e != wantE || !same(got, want) {
		u.t.Fatalf("9.3:%s: %d messages, %d; not %d, %d", u.done, len(got), e, len(want), wantE)
	}
	if e != api.OK {
		return
	}
	u.put[key(u.plain[i])]++
	u.net, u.plain = got, want
}

// holds fails unless the net is the plain list, and each message in it was put in so often at least.
func (u *under) holds() {
	u.t.Helper()
	if !same(u.net, u.plain) {
		u.t.Fatalf("9.4:%s: %d under way, not those %d", u.done, len(u.net), len(u.plain))
	}
	there := map[string]int{}
	for _, m := range u.net {
		there[key(m)]++
	}
	for k, n := range there {
		if n > u.put[k] {
			u.t.Fatalf("9.4:%s: %d times under way, %d times put in: %s", u.done, n, u.put[k], k)
		}
	}
}

// run does drawn acts; most says how many messages one Add has at most.
func (u *under) run(r *rand.Rand, acts, most int) {
	for range acts {
		i := r.Intn(len(u.plain)+4) - 2
		switch r.Intn(4) {
		case 0, 1:
			var more []api.Message
			for range r.Intn(most + 1) {
				more = append(more, drawn(r))
			}
			u.add(more)
		case 2:
			u.take(i)
		case 3:
			u.double(i)
		}
		u.holds()
	}
}

func TestDrawnRuns(t *testing.T) {
	r := rand.New(rand.NewSource(94))
	for n := range 300 {
		u := under{t: t, put: map[string]int{}}
		u.run(r, 60, 1+n%4)
	}
}

// Runs that come to MaxNet and go on there.
func TestDrawnRunsThatAreFull(t *testing.T) {
	r := rand.New(rand.NewSource(95))
	for range 8 {
		u := under{t: t, put: map[string]int{}}
		u.run(r, 80, 60)
		if len(u.net) < api.MaxNet-5 {
			t.Errorf("a run that is not full: %d", len(u.net))
		}
	}
}

// Runs that begin with more than MaxNet, and come down to it.
func TestDrawnRunsFromALongList(t *testing.T) {
	r := rand.New(rand.NewSource(96))
	for range 8 {
		u := under{t: t, put: map[string]int{}}
		for range api.MaxNet + 20 {
			m := drawn(r)
			u.put[key(m)]++
			u.net, u.plain = append(u.net, m), append(u.plain, deepOne(m))
		}
		u.run(r, 160, 2)
	}
}

// The rules of all calls

// roomyOne copies a message, with spare room of its Log full of what is not its own.
func roomyOne(m api.Message) api.Message {
	mark := api.Entry{Time: -77, Data: "spare room"}
	log := append(slices.Clone(m.Log), mark, mark, mark)
	m.Log = log[:len(m.Log)]
	return m
}

// roomy copies messages, with spare room of every list full of what is not theirs.
func roomy(l []api.Message) []api.Message {
	ms := make([]api.Message, 0, len(l)+3)
	for _, m := range l {
		ms = append(ms, roomyOne(m))
	}
	for range 3 {
		ms = append(ms, roomyOne(numbered(-7)))
	}
	return ms[:len(l)]
}

// whole copies messages with all spare room.
func whole(l []api.Message) []api.Message {
	var ms []api.Message
	for _, m := range l[:cap(l)] {
		m.Log = slices.Clone(m.Log[:cap(m.Log)])
		ms = append(ms, m)
	}
	return ms
}

// spoilLog writes over entries, their spare room too.
func spoilLog(log []api.Entry) {
	log = log[:cap(log)]
	for i := range log {
		log[i] = api.Entry{Time: -99, Data: "spoilt"}
	}
}

// spoil writes over messages, and whatever is in their spare room.
func spoil(l []api.Message) {
	l = l[:cap(l)]
	for i := range l {
		spoilLog(l[i].Log)
		l[i] = api.Message{Kind: -99, Log: []api.Entry{{Time: -99, Data: "spoilt"}}}
	}
}

// appended appends to messages and to their Logs, so that what has room is written behind its end.
func appended(l []api.Message) {
	for _, m := range l {
		log := m.Log
		for range 5 {
			log = append(log, api.Entry{Time: -88, Data: "behind"})
		}
	}
	for range 5 {
		l = append(l, api.Message{Kind: -88})
	}
}

// apart fails if what is done to the Log of one message of l is to be seen in another.
func apart(t *testing.T, what string, l []api.Message) {
	t.Helper()
	want := deep(l)
	for i := range l {
		appended(l[i : i+1 : i+1])
		if !same(l, want) {
			t.Fatalf("R3: %s: what is appended to Log %d is to be seen", what, i)
		}
		spoilLog(l[i].Log)
		want[i] = deepOne(l[i])
		if !same(l, want) {
			t.Fatalf("R3: %s: what is written into Log %d is to be seen in another", what, i)
		}
	}
}

// call is one of the calls, made alike: it tells the list of its answer, and the message.
type call struct {
	name string
	do   func(l, more []api.Message) ([]api.Message, api.Message)
}

// calls are all calls, at a place.
func calls(i int) []call {
	return []call{
		{"Add", func(l, more []api.Message) ([]api.Message, api.Message) {
			return Add(l, more), api.Message{}
		}},
		{fmt.Sprintf("Take at %d", i), func(l, _ []api.Message) ([]api.Message, api.Message) {
			m, others, _ := Take(l, i)
			return others, m
		}},
		{fmt.Sprintf("Double at %d", i), func(l, _ []api.Message) ([]api.Message, api.Message) {
			d, _ := Double(l, i)
			return d, api.Message{}
		}},
	}
}

// ownMemory holds one call to R3 and R5, over lists with spare room.
func ownMemory(t *testing.T, c call, l, more []api.Message) {
	t.Helper()
	l, more = roomy(l), roomy(more)
	what := fmt.Sprintf("%s, %d and %d messages", c.name, len(l), len(more))
	wholeL, wholeMore := whole(l), whole(more)
	unchanged := func(then string) {
		t.Helper()
		if !same(whole(l), wholeL) || !same(whole(more), wholeMore) {
			t.Fatalf("R3: %s: %s what was handed in has changed", what, then)
		}
	}
	told, one := c.do(l, more)
	unchanged("by the call")
	wantTold, wantOne := deep(told), deepOne(one)
	again := func(then string) {
		t.Helper()
		if next, m := c.do(l, more); !same(next, wantTold) || !alike(m, wantOne) {
			t.Fatalf("R5: %s: %s the same call tells otherwise", what, then)
		}
	}
	again("at once")
	appended(told)
	appended([]api.Message{one})
	unchanged("by appending to what was told")
	if !same(told, wantTold) || !alike(one, wantOne) {
		t.Fatalf("R3: %s: appending to one thing that was told turns another", what)
	}
	other, otherOne := c.do(l, more)
	spoil(other[len(other):])
	if !same(other, wantTold) || !alike(otherOne, wantOne) {
		t.Fatalf("R3: %s: what is written into the list's spare room turns what was told", what)
	}
	apart(t, what, other)
	if !alike(otherOne, wantOne) {
		t.Fatalf("R3: %s: what is written into the list turns the message", what)
	}
	spoil(told)
	spoilLog(one.Log)
	unchanged("by writing into what was told")
	again("behind writing into what was told")
}

func TestOwnMemory(t *testing.T) {
	for _, c := range []struct{ l, more int }{
		{0, 0}, {0, 1}, {1, 0}, {1, 1}, {2, 3}, {5, 5}, {0, 401}, {398, 3}, {399, 1}, {399, 9}, {400, 0}, {400, 2}, {401, 0}, {401, 2},
	} {
		for _, i := range []int{-1, 0, 1, c.l / 2, c.l - 1, c.l, c.l + 1} {
			for _, x := range calls(i) {
				ownMemory(t, x, list(c.l, 0), list(c.more, 5000))
			}
		}
	}
	for i := range unlike() {
		for _, x := range calls(i) {
			ownMemory(t, x, unlike(), unlike())
		}
	}
}

// The same list as both l and more, and a piece of l as more.
func TestListsThatShareMemory(t *testing.T) {
	l := roomy(list(6, 0))
	before := whole(l)
	for lo := range 7 {
		for hi := lo; hi < 7; hi++ {
			got := Add(l[:lo], l[lo:hi])
			if !same(got, list(hi, 0)) {
				t.Errorf("R3: Add of pieces of one list, parted at %d, to %d: %v", lo, hi, got)
			}
			apart(t, "Add of pieces of one list", got)
			got = Add(l, l[lo:hi])
			if !same(got, append(list(6, 0), list(hi-lo, lo)...)) {
				t.Errorf("R3: Add of a list and its piece from %d to %d: %v", lo, hi, got)
			}
			apart(t, "Add of a list and its piece", got)
			spoil(got)
		}
	}
	if !same(whole(l), before) {
		t.Error("R3: what was handed in has changed")
	}
}

// Messages that share one Log are told with a Log each.
func TestLogsThatShareMemory(t *testing.T) {
	shared := numbered(5).Log
	l := []api.Message{{Kind: 1, Log: shared}, {Kind: 2, Log: shared[:1]}, {Kind: 3, Log: shared[1:]}, {Kind: 4, Log: shared}}
	apart(t, "Add", Add(l, l))
	for i := range l {
		m, others, _ := Take(l, i)
		want := deepOne(m)
		apart(t, "Take", others)
		if !alike(m, want) {
			t.Errorf("R3: Take at %d: what is written into the others turns the message", i)
		}
		d, _ := Double(l, i)
		apart(t, "Double", d)
	}
	if !slices.Equal(shared, numbered(5).Log) {
		t.Error("R3: what was handed in has changed")
	}
}

// What was handed in is not kept: who handed it in may write into it.
func TestNothingIsKept(t *testing.T) {
	l, more := list(4, 0), list(3, 10)
	sum := Add(l, more)
	m, others, _ := Take(l, 1)
	d, _ := Double(l, 2)
	spoil(l)
	spoil(more)
	if !same(sum, append(list(4, 0), list(3, 10)...)) {
		t.Error("R3: Add keeps what was handed in")
	}
	if !alike(m, numbered(1)) || !same(others, []api.Message{numbered(0), numbered(2), numbered(3)}) {
		t.Error("R3: Take keeps what was handed in")
	}
	if !same(d, append(list(4, 0), numbered(2))) {
		t.Error("R3: Double keeps what was handed in")
	}
}

// What was told lives on when it is handed in again.
func TestEarlierListsStay(t *testing.T) {
	r := rand.New(rand.NewSource(97))
	for range 20 {
		var l []api.Message
		var told, copies [][]api.Message
		for step := range 60 {
			switch r.Intn(3) {
			case 0:
				l = Add(l, list(r.Intn(4), 10*step))
			case 1:
				if _, others, e := Take(l, r.Intn(len(l)+1)); e == api.OK {
					l = others
				}
			case 2:
				if d, e := Double(l, r.Intn(len(l)+1)); e == api.OK {
					l = d
				}
			}
			told, copies = append(told, l), append(copies, deep(l))
		}
		for i := range told {
			if !same(told[i], copies[i]) {
				t.Fatalf("R3: what was told at step %d has changed", i)
			}
		}
	}
}
