package apply

import (
	"fmt"
	"math/rand"
	"slices"
	"testing"

	"falsework/api"
	"falsework/cmd"
)

// Few keys, some of them beginnings of others, so that drawn commands meet.
func names() []string { return []string{"", "a", "a\x00", "ab", "b", "c", "\xff"} }

// some is a choice of the names, each in with one of so many, rising.
func some(r *rand.Rand, of int) []string {
	var list []string
	for _, k := range names() {
		if r.Intn(of) == 0 {
			list = append(list, k)
		}
	}
	return list
}

// near is a number close to n, or 0.
func near(r *rand.Rand, n int) int {
	return max(0, n-2+r.Intn(5))
}

func drawnCommand(r *rand.Rand, time int) api.Command {
	c := api.Command{Kind: r.Intn(6), Client: r.Intn(4), Seq: r.Intn(3) + max(0, time)/8, Snap: max(0, time-1-r.Intn(6))}
	if r.Intn(12) == 0 {
		c.Snap = near(r, time)
	}
	if r.Intn(5) == 0 {
		c.Deadline = near(r, time)
	}
	if r.Intn(5) == 0 {
		c.After = near(r, time)
	}
	c.Keys = some(r, 8)
	for range r.Intn(3) * r.Intn(2) {
		all := names()
		c.Ranges = append(c.Ranges, api.Range{Lo: all[r.Intn(len(all))], Hi: all[r.Intn(len(all))]})
	}
	for _, k := range some(r, 4) {
		w := api.Write{Key: k, Del: r.Intn(2) == 0}
		if !w.Del {
			w.Val = fmt.Sprint("v", r.Intn(100))
		}
		c.Writes = append(c.Writes, w)
	}
	return c
}

// drawnEntry is one behind a time, but now and then at it or ahead of it, and now and then of no command.
func drawnEntry(t *testing.T, r *rand.Rand, behind int) api.Entry {
	time := behind + 1 + r.Intn(3)
	if r.Intn(12) == 0 {
		time = behind - r.Intn(3)
	}
	data := bytesOf(t, drawnCommand(r, time))
	if r.Intn(15) == 0 {
		data = data[:r.Intn(len(data))]
	}
	return api.Entry{Time: time, Data: data}
}

// 14.2 and 14.3: a run of drawn entries, now and then gone on in a copy.
func TestDrawn(t *testing.T) {
	r := rand.New(rand.NewSource(14))
	seen := map[int]int{}
	for range 150 {
		b := pair(t, 1+r.Intn(40))
		for range 60 {
			seen[b.entry(drawnEntry(t, r, b.m.Time())).Code]++
			if r.Intn(20) == 0 {
				b = apart(b, drawnEntry(t, r, b.m.Time()))
			}
			if t.Failed() {
				return
			}
		}
	}
	for _, code := range []api.Errno{api.OK, api.ErrArg, api.ErrForm, api.ErrTwice, api.ErrLate, api.ErrEarly, api.ErrConflict, api.ErrFull} {
		if seen[int(code)] < 150 {
			t.Error("too few entries of Code", code, seen)
		}
	}
}

// apart does an entry in one of two that are the same, and tells the other one, which must not have seen it.
func apart(b both, e api.Entry) both {
	b.t.Helper()
	other := b.copied()
	if e.Time%2 == 0 {
		b, other = other, b
	}
	other.entry(e)
	alike(b.t, "what a copy, or what it was made of, did not do", b.m, b.p)
	return b
}

// behind tells what a machine tells behind entries.
func behind(room int, entries []api.Entry) string {
	m, _ := New(room)
	s := ""
	for _, e := range entries {
		s += fmt.Sprint(m.Do(e))
	}
	return s + dump(m)
}

// 14.4: the same entries make the same; those that are no Dones are as if they had not been.
func TestSameEntries(t *testing.T) {
	r := rand.New(rand.NewSource(4))
	for range 50 {
		room := 1 + r.Intn(30)
		m, _ := New(room)
		var entries, stay []api.Entry
		for range 60 {
			e := drawnEntry(t, r, m.Time())
			entries = append(entries, e)
			if n := len(m.Dones()); m.Do(e).Time == m.Time() && len(m.Dones()) > n {
				stay = append(stay, e)
			}
		}
		if first := behind(room, entries); first != behind(room, entries) || first[len(first)-len(dump(m)):] != dump(m) {
			t.Fatal("14.4: the same entries make another machine")
		}
		other, _ := New(room)
		for _, e := range stay {
			other.Do(e)
		}
		if dump(other) != dump(m) {
			t.Fatal("14.4: entries that are no Dones have done something")
		}
	}
}

// 14.4: a command that is not OK leaves the store as it was; one that is OK, and was done, read what stood there just ahead of its Time.
func TestReads(t *testing.T) {
	r := rand.New(rand.NewSource(44))
	kept, read := 0, 0
	for range 100 {
		m, _ := New(1 + r.Intn(60))
		for range 50 {
			e := drawnEntry(t, r, m.Time())
			c, _ := cmd.Get(e.Data)
			times := []int{0, c.Snap, e.Time - 1, e.Time, e.Time + 1}
			was, before := versions(m.Store(), times), m.Copy().Store()
			d := m.Do(e)
			now := versions(m.Store(), times)
			if d.Code != int(api.OK) {
				kept++
				if now != was {
					t.Fatalf("14.4: %+v: the store was %s and is %s", d, was, now)
				}
				continue
			}
			// Of a new view, and of a Seq that was there, nothing is read or done.
			if now == was {
				continue
			}
			read++
			for _, k := range c.Keys {
				then, is := before.Get(c.Snap, k)
				if v, ok := before.Get(e.Time-1, k); v != then || ok != is {
					t.Fatalf("14.4: %q was %q, and is %q, ahead of %d", k, then, v, e.Time)
				}
			}
			for _, x := range c.Ranges {
				if !slices.Equal(before.Scan(c.Snap, x.Lo, x.Hi, 99), before.Scan(e.Time-1, x.Lo, x.Hi, 99)) {
					t.Fatalf("14.4: %q has turned ahead of %d", x, e.Time)
				}
			}
		}
	}
	if kept < 500 || read < 500 {
		t.Error("too few commands of one sort", kept, read)
	}
}
