package txn

import (
	"fmt"
	"slices"
	"sort"
	"testing"

	"falsework/api"
	"falsework/store"
)

// A plain reckoning by the words of chapter 15, against which the program is held: a store's versions in one list, a transaction's writes in another one, each as it came, gone through from end to end for each question.

// fact is a version of a key.
type fact struct {
	key  string
	time int
	val  string
	gone bool
}

// shelf is a store, and a list of all that was put into it.
type shelf struct {
	t     *testing.T
	s     *store.Store
	facts []fact
}

func newShelf(t *testing.T) *shelf {
	t.Helper()
	s, e := store.New(api.MaxStore)
	if e != api.OK {
		t.Fatal("a store:", e)
	}
	return &shelf{t: t, s: s}
}

func (h *shelf) put(time int, k, v string) {
	h.t.Helper()
	if e := h.s.Put(time, k, v); e != api.OK {
		h.t.Fatalf("a version of %q at %d: %d", k, time, e)
	}
	h.facts = append(h.facts, fact{key: k, time: time, val: v})
}

func (h *shelf) del(time int, k string) {
	h.t.Helper()
	if e := h.s.Del(time, k); e != api.OK {
		h.t.Fatalf("%q gone at %d: %d", k, time, e)
	}
	h.facts = append(h.facts, fact{key: k, time: time, gone: true})
}

func (h *shelf) at(time int, k string) (string, bool) {
	val, there := "", false
	for _, f := range h.facts {
		if f.key == k && f.time <= time {
			val, there = f.val, !f.gone
		}
	}
	return val, there
}

// dump is all that the store tells at the times of its versions, and around them.
func (h *shelf) dump() string {
	s := fmt.Sprint(h.s.Size())
	times := []int{0, api.MaxTime}
	for _, f := range h.facts {
		times = append(times, f.time-1, f.time, f.time+1)
	}
	for _, time := range times {
		s += fmt.Sprintf(" %d:%q%v", time, h.s.Scan(time, "", "", api.MaxStore), h.s.Since("", "", time))
	}
	return s
}

// plain is a transaction; over no shelf: over a nil store.
type plain struct {
	h      *shelf
	snap   int
	asked  []string
	ranges []api.Range
	done   []api.Write
}

// last is the last of its writes of k.
func (p *plain) last(k string) (api.Write, bool) {
	for i := len(p.done) - 1; i >= 0; i-- {
		if p.done[i].Key == k {
			return p.done[i], true
		}
	}
	return api.Write{}, false
}

func (p *plain) stored(k string) (string, bool) {
	if p.h == nil {
		return "", false
	}
	return p.h.at(p.snap, k)
}

// stands is what would stand at k, were its writes done.
func (p *plain) stands(k string) (string, bool) {
	if w, ok := p.last(k); ok {
		return w.Val, !w.Del
	}
	return p.stored(k)
}

func (p *plain) get(k string) (string, bool) {
	if _, ok := p.last(k); !ok {
		p.asked = append(p.asked, k)
	}
	return p.stands(k)
}

// below tells whether a is below b: the first byte that differs, else the length.
func below(a, b string) bool {
	for i := range min(len(a), len(b)) {
		if a[i] != b[i] {
			return int(a[i]) < int(b[i])
		}
	}
	return len(a) < len(b)
}

// rising is each of the keys once, in order.
func rising(keys []string) []string {
	var list []string
	for _, k := range keys {
		if !slices.Contains(list, k) {
			list = append(list, k)
		}
	}
	sort.Slice(list, func(i, j int) bool { return below(list[i], list[j]) })
	return list
}

func (p *plain) scan(lo, hi string, n int) []api.Pair {
	if n < 1 {
		return nil
	}
	var keys []string
	if p.h != nil {
		for _, f := range p.h.facts {
			keys = append(keys, f.key)
		}
	}
	for _, w := range p.done {
		keys = append(keys, w.Key)
	}
	var all []api.Pair
	for _, k := range rising(keys) {
		if v, ok := p.stands(k); ok && !below(k, lo) && (len(hi) == 0 || below(k, hi)) {
			all = append(all, api.Pair{Key: k, Val: v})
		}
	}
	if len(all) < n {
		p.ranges = append(p.ranges, api.Range{Lo: lo, Hi: hi})
		return all
	}
	p.ranges = append(p.ranges, api.Range{Lo: lo, Hi: all[n-1].Key + string([]byte{0})})
	return all[:n]
}

func (p *plain) command() api.Command {
	var keys []string
	for _, w := range p.done {
		keys = append(keys, w.Key)
	}
	c := api.Command{Snap: p.snap, Keys: rising(p.asked), Ranges: p.ranges}
	for _, k := range rising(keys) {
		w, _ := p.last(k)
		c.Writes = append(c.Writes, w)
	}
	return c
}

// both is a transaction, and a reckoning of it.
type both struct {
	t *testing.T
	x *Txn
	p *plain
}

func begin(h *shelf, snap int) both {
	return both{t: h.t, x: New(h.s, snap), p: &plain{h: h, snap: snap}}
}

func beginOverNil(t *testing.T, snap int) both {
	return both{t: t, x: New(nil, snap), p: &plain{snap: snap}}
}

func (b both) get(k string) (string, bool) {
	b.t.Helper()
	got, ok := b.x.Get(k)
	if want, is := b.p.get(k); got != want || ok != is {
		b.t.Errorf("15.1: as of %d: Get of %q is %q %v, not %q %v", b.p.snap, k, got, ok, want, is)
	}
	return got, ok
}

func (b both) scan(lo, hi string, n int) []api.Pair {
	b.t.Helper()
	got := b.x.Scan(lo, hi, n)
	if want := b.p.scan(lo, hi, n); !slices.Equal(got, want) {
		b.t.Errorf("15.1: as of %d: Scan of %q, %q, %d is %q, not %q", b.p.snap, lo, hi, n, got, want)
	}
	return got
}

func (b both) put(k, v string) {
	b.x.Put(k, v)
	b.p.done = append(b.p.done, api.Write{Key: k, Val: v})
}

func (b both) del(k string) {
	b.x.Del(k)
	b.p.done = append(b.p.done, api.Write{Key: k, Del: true})
}

// command asks that both have the same one, and tells it.
func (b both) command() api.Command {
	b.t.Helper()
	got, want := b.x.Command(), b.p.command()
	if show(got) != show(want) {
		b.t.Errorf("15.2: the command is %s, not %s", show(got), show(want))
	}
	elseZero(b.t, got)
	return got
}

// elseZero asks that a command has nothing but Snap, Keys, Ranges and Writes.
func elseZero(t *testing.T, c api.Command) {
	t.Helper()
	if c.Kind != 0 || c.Client != 0 || c.Seq != 0 || c.Deadline != 0 || c.After != 0 || c.Held != 0 || c.Text != "" || c.Code != 0 || len(c.Rows) != 0 {
		t.Errorf("15.2: the command has more: %+v", c)
	}
}

// show is what a transaction makes of a command, as a text.
func show(c api.Command) string {
	return fmt.Sprintf("%d %q %q %s", c.Snap, c.Keys, c.Ranges, writesOf(c))
}

func writesOf(c api.Command) string {
	s := ""
	for _, w := range c.Writes {
		if w.Del {
			s += fmt.Sprintf("-%q%s;", w.Key, w.Val)
		} else {
			s += fmt.Sprintf("%q=%q;", w.Key, w.Val)
		}
	}
	return s
}

func pairsOf(list []api.Pair) string {
	s := ""
	for _, x := range list {
		s += x.Key + "=" + x.Val + ";"
	}
	return s
}
