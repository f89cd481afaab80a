package apply

import (
	"fmt"
	"math"
	"slices"
	"testing"

	"falsework/api"
	"falsework/cmd"
	"falsework/store"
)

// A plain reckoning by the words of chapter 14, against which the program is held: all that was ever done in one list, all that was ever written in another one, gone through from end to end for each question.

// past is an entry that is one of Dones; one that counts may be its client's last one.
type past struct {
	done   api.Done
	counts bool
}

// fact is a version of a key.
type fact struct {
	key  string
	time int
	val  string
	gone bool
}

type plain struct {
	room  int
	pasts []past
	facts []fact
}

func (p *plain) time() int {
	if len(p.pasts) == 0 {
		return 0
	}
	return p.pasts[len(p.pasts)-1].done.Time
}

func (p *plain) do(e api.Entry) api.Done {
	c, wrong := cmd.Get(e.Data)
	done := api.Done{Client: c.Client, Seq: c.Seq, Time: e.Time}
	if !(e.Time > p.time()) || !(e.Time < 1<<40) {
		done.Code = 1
		return done
	}
	last, had := p.lastOf(c.Client)
	counts := false
	switch {
	case wrong != 0:
		done.Code = 3
	case c.Client >= 1 && had && c.Seq == last.Seq:
		done.Code = last.Code
	case c.Client >= 1 && had && c.Seq < last.Seq:
		done.Code = 6
	case c.Kind == 0:
		done.Code = 0
	default:
		counts = true
		done.Code = p.judged(e.Time, c)
	}
	if counts && done.Code == 0 {
		p.facts = append(p.facts, p.added(e.Time, c)...)
	}
	p.pasts = append(p.pasts, past{done: done, counts: counts})
	return done
}

// lastOf is the client's last Done that counts.
func (p *plain) lastOf(client int) (api.Done, bool) {
	for i := len(p.pasts) - 1; i >= 0; i-- {
		if x := p.pasts[i]; x.counts && x.done.Client == client {
			return x.done, true
		}
	}
	return api.Done{}, false
}

// judged is the Code of a command whose Seq is new.
func (p *plain) judged(time int, c api.Command) int {
	switch {
	case !(c.Snap < time):
		return 1
	case c.Deadline != 0 && time > c.Deadline:
		return 14
	case time < c.After:
		return 15
	case p.conflict(c):
		return 13
	case len(p.facts)+len(p.added(time, c)) > p.room:
		return 4
	default:
		return 0
	}
}

func (p *plain) conflict(c api.Command) bool {
	for _, f := range p.facts {
		if f.time <= c.Snap {
			continue
		}
		if slices.Contains(c.Keys, f.key) {
			return true
		}
		for _, r := range c.Ranges {
			if f.key >= r.Lo && (r.Hi == "" || f.key < r.Hi) {
				return true
			}
		}
	}
	return false
}

// added is what the Writes of a command would add.
func (p *plain) added(time int, c api.Command) []fact {
	var more []fact
	for _, w := range c.Writes {
		if _, there := p.get(math.MaxInt, w.Key); there || !w.Del {
			more = append(more, fact{key: w.Key, time: time, val: w.Val, gone: w.Del})
		}
	}
	return more
}

func (p *plain) get(time int, k string) (string, bool) {
	val, there := "", false
	for _, f := range p.facts {
		if f.key == k && f.time <= time {
			val, there = f.val, !f.gone
		}
	}
	return val, there
}

func (p *plain) last(k string) int {
	time := 0
	for _, f := range p.facts {
		if f.key == k {
			time = f.time
		}
	}
	return time
}

func (p *plain) dones() []api.Done {
	var list []api.Done
	for _, x := range p.pasts {
		list = append(list, x.done)
	}
	return list
}

func (p *plain) answer(client, seq int) (api.Done, bool) {
	for _, d := range p.dones() {
		if client >= 1 && d.Client == client && d.Seq == seq && d.Code != 6 {
			return d, true
		}
	}
	return api.Done{}, false
}

func (p *plain) copied() *plain {
	return &plain{room: p.room, pasts: slices.Clone(p.pasts), facts: slices.Clone(p.facts)}
}

// alike asks that a machine tells what the reckoning does.
func alike(t *testing.T, what string, m *Machine, p *plain) {
	t.Helper()
	if m.Time() != p.time() {
		t.Errorf("14.3: %s: the time is %d, not %d", what, m.Time(), p.time())
	}
	if got := m.Dones(); !slices.Equal(got, p.dones()) {
		t.Errorf("14.3: %s: Dones are %v, not %v", what, got, p.dones())
	}
	asked := [][2]int{{-1, 0}, {0, 0}, {0, 1}, {101, 1}, {1, -1}, {1, math.MaxInt}}
	for _, d := range p.dones() {
		for _, client := range []int{d.Client, -d.Client} {
			asked = append(asked, [2]int{client, d.Seq - 1}, [2]int{client, d.Seq}, [2]int{client, d.Seq + 1})
		}
	}
	for _, x := range asked {
		got, ok := m.Answer(x[0], x[1])
		if want, is := p.answer(x[0], x[1]); got != want || ok != is {
			t.Errorf("14.3: %s: Answer of %v is %v %v, not %v %v", what, x, got, ok, want, is)
		}
	}
	alikeStore(t, what, m.Store(), p)
}

func alikeStore(t *testing.T, what string, s *store.Store, p *plain) {
	t.Helper()
	if s.Size() != len(p.facts) {
		t.Errorf("14.2: %s: %d versions, not %d", what, s.Size(), len(p.facts))
	}
	for _, f := range p.facts {
		if got := s.Last(f.key); got != p.last(f.key) {
			t.Errorf("14.2: %s: the last of %q is at %d, not %d", what, f.key, got, p.last(f.key))
		}
		for _, time := range []int{f.time - 1, f.time} {
			got, ok := s.Get(time, f.key)
			if want, is := p.get(time, f.key); got != want || ok != is {
				t.Errorf("14.2: %s: %q at %d is %q %v, not %q %v", what, f.key, time, got, ok, want, is)
			}
		}
	}
}

// both is a machine, and a reckoning of it.
type both struct {
	t *testing.T
	m *Machine
	p *plain
}

func pair(t *testing.T, room int) both {
	t.Helper()
	m, e := New(room)
	if e != api.OK {
		t.Fatalf("14.1: room %d: %d", room, e)
	}
	return both{t: t, m: m, p: &plain{room: room}}
}

func (b both) copied() both {
	return both{t: b.t, m: b.m.Copy(), p: b.p.copied()}
}

// entry does an entry in both, and holds them against each other.
func (b both) entry(e api.Entry) api.Done {
	b.t.Helper()
	what := fmt.Sprintf("an entry of time %d", e.Time)
	got, want := b.m.Do(e), b.p.do(e)
	if got != want {
		b.t.Errorf("14.2: %s: %+v, not %+v", what, got, want)
	}
	alike(b.t, what, b.m, b.p)
	return got
}

// does asks that a command at that time has just that Code, with its own Client, Seq and Time beside it.
func (b both) does(what string, time int, c api.Command, code api.Errno) {
	b.t.Helper()
	want := api.Done{Client: c.Client, Seq: c.Seq, Time: time, Code: int(code)}
	if got := b.entry(api.Entry{Time: time, Data: bytesOf(b.t, c)}); got != want {
		b.t.Errorf("14.2: %s: %+v, not %+v", what, got, want)
	}
}

func bytesOf(t *testing.T, c api.Command) string {
	t.Helper()
	s, e := cmd.Put(c)
	if e != api.OK {
		t.Fatalf("a command that may not be: %d %+v", e, c)
	}
	return s
}

// dump is all that a machine tells, as a text.
func dump(m *Machine) string {
	s := fmt.Sprint(m.Time(), m.Dones(), m.Store().Size())
	times := []int{0, 1}
	for _, d := range m.Dones() {
		times = append(times, d.Time-1, d.Time)
		a, ok := m.Answer(d.Client, d.Seq)
		s += fmt.Sprint(" ", a, ok)
	}
	return s + " " + versions(m.Store(), times)
}

// versions is all that a store tells at those times, as a text.
func versions(st *store.Store, times []int) string {
	s := fmt.Sprint(st.Size())
	for _, time := range times {
		for _, x := range st.Scan(time, "", "", api.MaxStore) {
			s += fmt.Sprintf(" %d:%q=%q", time, x.Key, x.Val)
		}
		s += fmt.Sprint(" ", st.Since("", "", time))
	}
	return s
}
