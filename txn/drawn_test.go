package txn

import (
	"fmt"
	"math"
	"math/rand"
	"slices"
	"testing"

	"falsework/api"
	"falsework/apply"
	"falsework/cmd"
	"falsework/store"
)

// Few keys, some of them beginnings of others, so that what is drawn meets.
func names() []string {
	return []string{"", "\x00", "a", "a\x00", "a\x00\x00", "ab", "b", "c", "c\xff", "d", "\xff", "\xff\xff"}
}

func drawnName(r *rand.Rand) string {
	all := names()
	return all[r.Intn(len(all))]
}

// drawnVersion puts a version at that time into a store.
func drawnVersion(r *rand.Rand, h *shelf, time int) {
	if r.Intn(3) == 0 {
		h.del(time, drawnName(r))
		return
	}
	h.put(time, drawnName(r), fmt.Sprint("s", r.Intn(100)))
}

// drawnShelf has versions of times up to the one that it tells.
func drawnShelf(t *testing.T, r *rand.Rand) (*shelf, int) {
	h, time := newShelf(t), 1
	for range r.Intn(30) {
		drawnVersion(r, h, time)
		time += r.Intn(2)
	}
	return h, time
}

func drawnCount(r *rand.Rand) int {
	switch r.Intn(8) {
	case 0:
		return -r.Intn(2)
	case 1:
		return math.MaxInt - r.Intn(2)
	default:
		return 1 + r.Intn(len(names())+1)
	}
}

func drawnWrite(r *rand.Rand, b both) {
	if r.Intn(2) == 0 {
		b.put(drawnName(r), fmt.Sprint("own", r.Intn(100)))
	} else {
		b.del(drawnName(r))
	}
}

func drawnRead(r *rand.Rand, b both) {
	if r.Intn(2) == 0 {
		b.get(drawnName(r))
	} else {
		b.scan(drawnName(r), drawnName(r), drawnCount(r))
	}
}

// 15.1 to 15.3: drawn calls of several transactions over one store, which goes on behind their snaps.
func TestDrawn(t *testing.T) {
	r := rand.New(rand.NewSource(15))
	for range 1500 {
		h, time := drawnShelf(t, r)
		open := []both{beginOverNil(t, time)}
		for range 3 {
			open = append(open, begin(h, r.Intn(time+1)))
		}
		time++
		for range 60 {
			b := open[r.Intn(len(open))]
			switch r.Intn(5) {
			case 0:
				time += r.Intn(2)
				drawnVersion(r, h, time)
			case 1, 2:
				drawnWrite(r, b)
			default:
				drawnRead(r, b)
			}
			b.command()
			if t.Failed() {
				return
			}
		}
		if was := h.dump(); r.Intn(10) == 0 {
			drawnRead(r, open[1])
			drawnWrite(r, open[1])
			if h.dump() != was {
				t.Fatal("15.3: something is written into the store")
			}
		}
	}
}

// 15.1: Scan and Get are what layer 8's would be, were the writes done: they are done, in another store.
func TestAsIfDone(t *testing.T) {
	r := rand.New(rand.NewSource(151))
	for range 1500 {
		h, time := drawnShelf(t, r)
		snap := r.Intn(time + 1)
		b := begin(h, snap)
		other, _ := store.New(api.MaxStore)
		for _, x := range h.s.Scan(snap, "", "", api.MaxStore) {
			other.Put(1, x.Key, x.Val)
		}
		for range r.Intn(15) {
			drawnWrite(r, b)
		}
		for _, w := range b.p.done {
			if w.Del {
				other.Del(2, w.Key)
			} else {
				other.Put(2, w.Key, w.Val)
			}
		}
		for range 20 {
			lo, hi, n := drawnName(r), drawnName(r), drawnCount(r)
			if got, want := b.x.Scan(lo, hi, n), other.Scan(2, lo, hi, n); !slices.Equal(got, want) {
				t.Fatalf("15.1: Scan of %q, %q, %d: %q, not %q", lo, hi, n, got, want)
			}
			v, ok := b.x.Get(lo)
			if want, is := other.Get(2, lo); v != want || ok != is {
				t.Fatalf("15.1: Get of %q: %q %v, not %q %v", lo, v, ok, want, is)
			}
		}
	}
}

// What a machine does of a Command is what the transaction read at its end; it may be (13), since Keys and Writes rise.
func TestCommitted(t *testing.T) {
	r := rand.New(rand.NewSource(152))
	for range 300 {
		m, _ := apply.New(api.MaxStore)
		for time := 1; time <= 10; time++ {
			x := New(m.Store(), time-1)
			b := both{t: t, x: x, p: &plain{}}
			for range r.Intn(10) {
				drawnWrite(r, b)
				x.Get(drawnName(r))
				x.Scan(drawnName(r), drawnName(r), drawnCount(r))
			}
			c := x.Command()
			c.Kind = api.CmdStmt
			data, e := cmd.Put(c)
			if e != api.OK {
				t.Fatal("15.2: a command that may not be:", e, show(c))
			}
			read := x.Scan("", "", api.MaxStore)
			if d := m.Do(api.Entry{Time: time, Data: data}); d.Code != int(api.OK) {
				t.Fatal("15.2: a command that nothing came between is not done:", d)
			}
			if got := m.Store().Scan(time, "", "", api.MaxStore); !slices.Equal(got, read) {
				t.Fatalf("15.2: behind a command stands %q, not %q", got, read)
			}
		}
	}
}

// What is noted is enough: where nothing of it has turned since, the same calls read the same as of a later time.
func TestNotedIsEnough(t *testing.T) {
	r := rand.New(rand.NewSource(153))
	same, turned := 0, 0
	for range 4000 {
		h, time := drawnShelf(t, r)
		b := begin(h, time)
		for range r.Intn(6) {
			drawnWrite(r, b)
		}
		lo, hi, n, k := drawnName(r), drawnName(r), 1+r.Intn(5), drawnName(r)
		told := b.scan(lo, hi, n)
		val, there := b.get(k)
		c := b.command()
		drawnVersion(r, h, time+1)
		later := begin(h, time+1)
		for _, w := range c.Writes {
			if w.Del {
				later.del(w.Key)
			} else {
				later.put(w.Key, w.Val)
			}
		}
		since := h.s.Since(c.Ranges[0].Lo, c.Ranges[0].Hi, time) || slices.ContainsFunc(c.Keys, func(k string) bool { return h.s.Last(k) > time })
		if v, ok := later.get(k); slices.Equal(later.scan(lo, hi, n), told) && v == val && ok == there {
			same++
		} else if turned++; !since {
			t.Fatalf("15.1: Scan of %q, %q, %d or Get of %q has turned, but nothing of %s", lo, hi, n, k, show(c))
		}
	}
	if same < 500 || turned < 500 {
		t.Error("too few of one sort", same, turned)
	}
}
