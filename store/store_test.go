package store

import (
	"fmt"
	"maps"
	"math"
	"math/rand"
	"slices"
	"sort"
	"strings"
	"testing"

	"falsework/api"
	"falsework/page"
)

// fact is a version that was ever put in; one that went was Trimmed since.
type fact struct {
	key  string
	time int
	val  string
	gone bool
	went bool
}

// plain is a store by the words of chapter 8: all that was ever put in, in one list, gone through from end to end for each call.
type plain struct {
	room  int
	facts []fact
}

func (p *plain) mayByWords(time int) bool {
	for _, f := range p.facts {
		if time < f.time {
			return false
		}
	}
	return time > 0 && time < 1<<40
}

func (p *plain) write(time int, k, v string, gone bool) api.Errno {
	for i, f := range p.facts {
		if !f.went && f.key == k && f.time == time {
			p.facts[i].val, p.facts[i].gone = v, gone
			return api.OK
		}
	}
	if p.size() == p.room {
		return api.ErrFull
	}
	p.facts = append(p.facts, fact{key: k, time: time, val: v, gone: gone})
	return api.OK
}

func (p *plain) put(time int, k, v string) api.Errno {
	if !p.mayByWords(time) {
		return api.ErrArg
	}
	return p.write(time, k, v, false)
}

func (p *plain) del(time int, k string) api.Errno {
	if !p.mayByWords(time) {
		return api.ErrArg
	}
	if last, ok := p.lastUpTo(math.MaxInt, k); !ok || last.gone {
		return api.OK
	}
	return p.write(time, k, "", true)
}

// lastUpTo is the last version of k that is not behind time.
func (p *plain) lastUpTo(time int, k string) (fact, bool) {
	best, ok := fact{}, false
	for _, f := range p.facts {
		if !f.went && f.key == k && f.time <= time && (!ok || f.time > best.time) {
			best, ok = f, true
		}
	}
	return best, ok
}

func (p *plain) get(time int, k string) (string, bool) {
	f, ok := p.lastUpTo(time, k)
	if !ok || f.gone {
		return "", false
	}
	return f.val, true
}

// allKeys is each key that was ever there, once, in order.
func (p *plain) allKeys() []string {
	var ks []string
	for _, f := range p.facts {
		if !slices.Contains(ks, f.key) {
			ks = append(ks, f.key)
		}
	}
	sort.Slice(ks, func(i, j int) bool { return below(ks[i], ks[j]) })
	return ks
}

// below tells whether a is below b: the first byte that differs, else the length.
func below(a, b string) bool {
	for i := range min(len(a), len(b)) {
		if a[i] != b[i] {
			return int(a[i]) < int(b[i])
		}
	}
	return len(a) < len(b)
}

// within tells whether a key is from lo on, below hi.
func within(k, lo, hi string) bool {
	return !below(k, lo) && (hi == "" || below(k, hi))
}

func (p *plain) scan(time int, lo, hi string, n int) []api.Pair {
	var xs []api.Pair
	for _, k := range p.allKeys() {
		if v, ok := p.get(time, k); ok && within(k, lo, hi) {
			xs = append(xs, api.Pair{Key: k, Val: v})
		}
	}
	if n < 0 {
		return nil
	}
	return xs[:min(n, len(xs))]
}

func (p *plain) last(k string) int {
	f, _ := p.lastUpTo(math.MaxInt, k)
	return f.time
}

func (p *plain) since(lo, hi string, time int) bool {
	for _, f := range p.facts {
		if !f.went && within(f.key, lo, hi) && f.time > time {
			return true
		}
	}
	return false
}

func (p *plain) size() int {
	n := 0
	for _, f := range p.facts {
		if !f.went {
			n++
		}
	}
	return n
}

func (p *plain) trim(time int) int {
	// What stays is asked of the list as it was, ahead of what goes.
	was := plain{facts: slices.Clone(p.facts)}
	n := 0
	for i, f := range was.facts {
		if f.went || f.time > time {
			continue
		}
		if last, _ := was.lastUpTo(time, f.key); f.time == last.time && !f.gone {
			continue
		}
		p.facts[i].went = true
		n++
	}
	return n
}

func (p *plain) copy() *plain {
	return &plain{p.room, slices.Clone(p.facts)}
}

// asked is which times, keys, ranges and numbers are asked of a store.
type asked struct {
	times  []int
	keys   []string
	ranges []api.Range
	ns     []int
}

// rangesOf tells each range that keys make, with an empty lo and an empty hi too.
func rangesOf(keys ...string) []api.Range {
	ends := append([]string{""}, keys...)
	var rs []api.Range
	for _, lo := range ends {
		for _, hi := range ends {
			rs = append(rs, api.Range{Lo: lo, Hi: hi})
		}
	}
	return rs
}

// agree holds all that a store tells against what the plain one does, and how its keys stand.
func agree(t *testing.T, what string, s *Store, p *plain, a asked) {
	t.Helper()
	if got, want := s.Size(), p.size(); got != want {
		t.Fatalf("8.3: %s: Size is %d, not %d", what, got, want)
	}
	for _, k := range a.keys {
		if got, want := s.Last(k), p.last(k); got != want {
			t.Fatalf("8.3: %s: Last(%q) is %d, not %d", what, k, got, want)
		}
		for _, time := range a.times {
			got, ok := s.Get(time, k)
			want, there := p.get(time, k)
			if got != want || ok != there {
				t.Fatalf("8.3: %s: Get(%d, %q) is %q, %v, not %q, %v", what, time, k, got, ok, want, there)
			}
		}
	}
	for _, r := range a.ranges {
		for _, time := range a.times {
			if got, want := s.Since(r.Lo, r.Hi, time), p.since(r.Lo, r.Hi, time); got != want {
				t.Fatalf("8.3: %s: Since(%q, %q, %d) is %v", what, r.Lo, r.Hi, time, got)
			}
			for _, n := range a.ns {
				if got, want := s.Scan(time, r.Lo, r.Hi, n), p.scan(time, r.Lo, r.Hi, n); !slices.Equal(got, want) {
					t.Fatalf("8.3: %s: Scan(%d, %q, %q, %d) is %q, not %q", what, time, r.Lo, r.Hi, n, got, want)
				}
			}
		}
	}
	stands(t, what, s)
}

// stands holds the keys in pages against those of the map: right pages, of just the keys that have versions.
func stands(t *testing.T, what string, s *Store) {
	t.Helper()
	if !page.Right(s.keys) {
		t.Fatalf("8, Ways: %s: pages that are not right: %q", what, s.keys)
	}
	var ks []string
	for _, p := range s.keys {
		for _, x := range p {
			ks = append(ks, x.Key)
		}
	}
	if want := slices.Sorted(maps.Keys(s.versions)); !slices.Equal(ks, want) {
		t.Fatalf("8, Ways: %s: keys %q in pages, %q in the map", what, ks, want)
	}
	for k, vs := range s.versions {
		if len(vs) == 0 {
			t.Fatalf("8, Ways: %s: %q is kept without versions", what, k)
		}
	}
}

// act is one call that turns a store: of kind 'p' a Put, 'd' a Del, 't' a Trim.
type act struct {
	kind byte
	time int
	key  string
	val  string
}

func put(time int, k, v string) act { return act{'p', time, k, v} }
func del(time int, k string) act    { return act{'d', time, k, ""} }
func trim(time int) act             { return act{'t', time, "", ""} }

func (a act) String() string {
	switch a.kind {
	case 'p':
		return fmt.Sprintf("Put(%d, %q, %q)", a.time, a.key, a.val)
	case 'd':
		return fmt.Sprintf("Del(%d, %q)", a.time, a.key)
	default:
		return fmt.Sprintf("Trim(%d)", a.time)
	}
}

// on does the act, and tells its answer.
func (a act) on(s *Store) int {
	switch a.kind {
	case 'p':
		return int(s.Put(a.time, a.key, a.val))
	case 'd':
		return int(s.Del(a.time, a.key))
	default:
		return s.Trim(a.time)
	}
}

// byWords does the act to a plain store, and tells its answer.
func (a act) byWords(p *plain) int {
	switch a.kind {
	case 'p':
		return int(p.put(a.time, a.key, a.val))
	case 'd':
		return int(p.del(a.time, a.key))
	default:
		return p.trim(a.time)
	}
}

// made makes a store of that room, and does acts to it that must all be OK.
func made(t *testing.T, room int, acts ...act) *Store {
	t.Helper()
	s, e := New(room)
	if e != api.OK || s == nil {
		t.Fatalf("8.1: New(%d) is %v, %d", room, s, e)
	}
	for _, a := range acts {
		if got := a.on(s); a.kind != 't' && got != int(api.OK) {
			t.Fatalf("8.2: %v is %d", a, got)
		}
	}
	return s
}

// dump tells a store as a text by its calls alone: what Get tells of each key at each time from 0 to 9, the last versions, the size.
func dump(s *Store, keys ...string) string {
	var b strings.Builder
	for _, k := range keys {
		fmt.Fprintf(&b, "%s:", k)
		for time := range 10 {
			if v, ok := s.Get(time, k); ok {
				b.WriteString(v)
			} else {
				b.WriteByte('.')
			}
		}
		fmt.Fprintf(&b, " %d; ", s.Last(k))
	}
	fmt.Fprintf(&b, "%d", s.Size())
	return b.String()
}

// 8.1

func TestRooms(t *testing.T) {
	for _, room := range []int{math.MinInt, -api.MaxStore, -2, -1, 0, api.MaxStore + 1, api.MaxStore + 2, 2 * api.MaxStore, math.MaxInt} {
		if s, e := New(room); s != nil || e != api.ErrArg {
			t.Errorf("8.1: New(%d) is %v, %d", room, s, e)
		}
	}
	for _, room := range []int{1, 2, 3, 7, 100, api.MaxStore - 1, api.MaxStore} {
		s := made(t, room)
		agree(t, fmt.Sprint("a new store of room ", room), s, &plain{room: room}, asked{
			times: []int{math.MinInt, -1, 0, 1, 2, api.MaxTime, math.MaxInt}, keys: []string{"", "a"}, ranges: rangesOf("a", "b"), ns: []int{-1, 0, 1, 9},
		})
		if n := s.Trim(9); n != 0 {
			t.Errorf("8.1: Trim of a new store is %d", n)
		}
	}
}

// Just so many versions come in as there is room for, whether of keys or of times.
func TestRoomIsHowMany(t *testing.T) {
	for _, room := range []int{1, 2, 3, 8, 9, 50} {
		wide, deep, mixed := made(t, room), made(t, room), made(t, room)
		for i := range room {
			k := fmt.Sprintf("%03d", i)
			if wide.Put(1, k, "v") != api.OK || deep.Put(i+1, "k", "v") != api.OK || mixed.Put(i+1, fmt.Sprint(i%3), "v") != api.OK {
				t.Fatalf("8.1: room %d: version %d is refused", room, i+1)
			}
		}
		for _, s := range []*Store{wide, deep, mixed} {
			if e := s.Put(room+1, "new", "v"); e != api.ErrFull || s.Size() != room || s.Last("new") != 0 {
				t.Errorf("8.2: room %d: one more is %d, Size %d", room, e, s.Size())
			}
		}
	}
}

func TestGreatestRoom(t *testing.T) {
	s := made(t, api.MaxStore)
	for i := range api.MaxStore {
		if e := s.Put(1+i/5, fmt.Sprintf("%d", i%3000), "v"); e != api.OK {
			t.Fatalf("8.1: version %d is %d", i+1, e)
		}
	}
	if e := s.Put(5000, "0", "v"); e != api.ErrFull {
		t.Errorf("8.2: one more than MaxStore is %d", e)
	}
	if got := len(s.Scan(5000, "", "", math.MaxInt)); got != 3000 || s.Size() != api.MaxStore {
		t.Errorf("8.3: %d pairs, Size %d", got, s.Size())
	}
	if n := s.Trim(5000); n != api.MaxStore-3000 || s.Put(5000, "0", "v") != api.OK {
		t.Errorf("8.4: Trim is %d", n)
	}
	stands(t, "the greatest room", s)
}

// 8.2

func TestTimes(t *testing.T) {
	for _, c := range []struct {
		time int
		want api.Errno
	}{
		{math.MinInt, api.ErrArg}, {-api.MaxTime, api.ErrArg}, {-1, api.ErrArg}, {0, api.ErrArg},
		{1, api.OK}, {2, api.OK}, {api.MaxTime - 2, api.OK}, {api.MaxTime - 1, api.OK},
		{api.MaxTime, api.ErrArg}, {api.MaxTime + 1, api.ErrArg}, {math.MaxInt, api.ErrArg},
	} {
		s := made(t, 5)
		if e := s.Put(c.time, "a", "x"); e != c.want {
			t.Errorf("8.2: Put at %d is %d, not %d", c.time, e, c.want)
		}
		there := 0
		if c.want == api.OK {
			there = 1
		}
		if s.Size() != there || s.Last("a") != c.time*there {
			t.Errorf("8.2: Put at %d: Size %d, Last %d", c.time, s.Size(), s.Last("a"))
		}
		// A Del asks the time first, whatever k has.
		if e := made(t, 5).Del(c.time, "a"); e != c.want {
			t.Errorf("8.2: Del of nothing at %d is %d, not %d", c.time, e, c.want)
		}
		s = made(t, 5, put(1, "a", "x"))
		if e := s.Del(c.time, "a"); e != c.want || s.Size() < 1 {
			t.Errorf("8.2: Del at %d is %d, not %d", c.time, e, c.want)
		}
		s = made(t, 5, put(1, "a", "x"), del(1, "a"))
		if e := s.Del(c.time, "a"); e != c.want || s.Size() != 1 {
			t.Errorf("8.2: Del of what is gone at %d is %d, not %d", c.time, e, c.want)
		}
	}
}

// Ahead of the greatest time that was ever put in nothing comes, at it and behind it all does.
func TestTimesBelowThatOfAnyVersion(t *testing.T) {
	for _, c := range []struct {
		name string
		acts []act
	}{
		{"of the same key", []act{put(5, "a", "x")}},
		{"of another key", []act{put(5, "b", "x")}},
		{"of several", []act{put(2, "a", "x"), put(3, "b", "x"), put(5, "c", "x")}},
		{"put in by Del", []act{put(4, "b", "x"), del(5, "b")}},
		{"Trimmed, by Put and Del", []act{put(4, "b", "x"), del(5, "b"), trim(5)}},
		{"Trimmed, as it was gone at once", []act{put(5, "b", "x"), del(5, "b"), trim(9)}},
		{"Trimmed all", []act{put(1, "a", "x"), put(2, "b", "x"), del(3, "a"), del(5, "b"), trim(99)}},
		{"turned by a Put", []act{put(5, "b", "x"), put(5, "b", "y")}},
		{"turned by a Del", []act{put(5, "b", "x"), del(5, "b")}},
		{"turned and turned back", []act{put(5, "b", "x"), del(5, "b"), put(5, "b", "z")}},
		{"turned, and Trimmed", []act{put(5, "b", "x"), put(5, "b", "y"), del(5, "b"), trim(7)}},
		{"and nothing at 8", []act{put(5, "a", "x"), del(8, "q")}},
		{"and a Trim behind it", []act{put(5, "a", "x"), trim(8)}},
	} {
		for _, k := range []string{"a", "b", "new"} {
			for time := 1; time < 8; time++ {
				s := made(t, 20, c.acts...)
				was := dump(s, "a", "b", "c", "new")
				want := api.OK
				if time < 5 {
					want = api.ErrArg
				}
				if e := s.Copy().Put(time, k, "v"); e != want {
					t.Errorf("8.2: a version %s: Put(%d, %s) to a Copy is %d", c.name, time, k, e)
				}
				d := s.Copy()
				if e := d.Del(time, k); e != want {
					t.Errorf("8.2: a version %s: Del(%d, %s) is %d", c.name, time, k, e)
				}
				if e := s.Put(time, k, "v"); e != want {
					t.Errorf("8.2: a version %s: Put(%d, %s) is %d", c.name, time, k, e)
				}
				if want == api.ErrArg && (dump(s, "a", "b", "c", "new") != was || dump(d, "a", "b", "c", "new") != was) {
					t.Errorf("8.2: a version %s: beside ErrArg something turned", c.name)
				}
			}
		}
	}
}

func TestSameTimeAgain(t *testing.T) {
	for _, c := range []struct {
		name string
		acts []act
		want string
	}{
		{"the same key", []act{put(2, "a", "x"), put(2, "a", "y")}, "a:..yyyyyyyy 2; b:.......... 0; 1"},
		{"the same Val", []act{put(2, "a", "x"), put(2, "a", "x")}, "a:..xxxxxxxx 2; b:.......... 0; 1"},
		{"the same key over an older one", []act{put(2, "a", "x"), put(4, "a", "y"), put(4, "a", "z")}, "a:..xxzzzzzz 4; b:.......... 0; 2"},
		{"another key", []act{put(2, "a", "x"), put(2, "b", "y")}, "a:..xxxxxxxx 2; b:..yyyyyyyy 2; 2"},
		{"one key again behind another", []act{put(2, "a", "x"), put(2, "b", "y"), put(2, "a", "z")}, "a:..zzzzzzzz 2; b:..yyyyyyyy 2; 2"},
		{"a Del over a Val", []act{put(2, "a", "x"), del(2, "a")}, "a:.......... 2; b:.......... 0; 1"},
		{"a Del over a Val, with an older one", []act{put(2, "a", "x"), put(4, "a", "y"), del(4, "a")}, "a:..xx...... 4; b:.......... 0; 2"},
		{"a Put over what is gone", []act{put(2, "a", "x"), del(4, "a"), put(4, "a", "y")}, "a:..xxyyyyyy 4; b:.......... 0; 2"},
		{"a Put over a Del over a Put", []act{put(2, "a", "x"), del(2, "a"), put(2, "a", "y")}, "a:..yyyyyyyy 2; b:.......... 0; 1"},
		{"a Del over a Put over a Del", []act{put(2, "a", "x"), del(2, "a"), put(2, "a", "y"), del(2, "a")}, "a:.......... 2; b:.......... 0; 1"},
		{"a Del of another key", []act{put(1, "b", "y"), put(2, "a", "x"), del(2, "b")}, "a:..xxxxxxxx 2; b:.y........ 2; 3"},
		{"a new version behind the same time", []act{put(2, "a", "x"), put(2, "a", "y"), put(3, "a", "z")}, "a:..yzzzzzzz 3; b:.......... 0; 2"},
		{"a version that Trim let go", []act{put(2, "a", "x"), del(3, "a"), trim(3), put(3, "a", "y")}, "a:...yyyyyyy 3; b:.......... 0; 1"},
	} {
		s := made(t, 9, c.acts...)
		if got := dump(s, "a", "b"); got != c.want {
			t.Errorf("8.2: %s: %s, not %s", c.name, got, c.want)
		}
		stands(t, c.name, s)
	}
}

// A Del of what has no version, or is gone, is OK and nothing, with room and without; the times that may come stay what they were.
func TestDelOfNothing(t *testing.T) {
	for _, c := range []struct {
		name string
		acts []act
		key  string
	}{
		{"no version of any key", nil, "a"},
		{"no version of this key", []act{put(2, "a", "x")}, "q"},
		{"the last one gone", []act{put(1, "a", "x"), del(2, "a")}, "a"},
		{"the only one gone", []act{put(2, "a", "x"), del(2, "a")}, "a"},
		{"the last of several gone", []act{put(1, "a", "x"), del(1, "a"), put(2, "a", "y"), del(2, "a")}, "a"},
		{"Trimmed", []act{put(1, "a", "x"), del(2, "a"), put(2, "b", "x"), trim(2)}, "a"},
	} {
		for _, spare := range []int{0, 1, 5} {
			// Versions of other keys take all room but the spare one.
			s := made(t, 9, c.acts...)
			for i := 9 - s.Size() - spare; i > 0; i-- {
				if e := s.Put(2, fmt.Sprint("more", i), "v"); e != api.OK {
					t.Fatalf("8.2: %s: version %d that takes room is %d", c.name, i, e)
				}
			}
			was := dump(s, "a", "b", "q")
			for _, time := range []int{2, 3, 7, api.MaxTime - 1} {
				if e := s.Del(time, c.key); e != api.OK {
					t.Errorf("8.2: %s, %d spare: Del(%d, %s) is %d", c.name, spare, time, c.key, e)
				}
			}
			if got := dump(s, "a", "b", "q"); got != was {
				t.Errorf("8.2: %s, %d spare: %s, not %s", c.name, spare, got, was)
			}
			want := api.OK
			if spare == 0 {
				want = api.ErrFull
			}
			// The Dels at later times put nothing in: an earlier one may come still.
			if e := s.Put(3, "new", "v"); e != want {
				t.Errorf("8.2: %s, %d spare: Put(3) behind it is %d, not %d", c.name, spare, e, want)
			}
		}
	}
}

func TestFull(t *testing.T) {
	acts := []act{put(1, "a", "x"), put(2, "b", "y"), del(3, "a"), put(3, "c", "z")}
	s := made(t, 4, acts...)
	was := dump(s, "a", "b", "c", "d")
	for _, c := range []struct {
		a    act
		want api.Errno
	}{
		{put(3, "d", "v"), api.ErrFull}, {put(3, "b", "v"), api.ErrFull}, {put(4, "c", "v"), api.ErrFull}, {put(4, "a", "v"), api.ErrFull},
		{del(3, "b"), api.ErrFull}, {del(4, "c"), api.ErrFull}, {del(api.MaxTime-1, "b"), api.ErrFull},
		{put(2, "d", "v"), api.ErrArg}, {put(0, "d", "v"), api.ErrArg}, {put(api.MaxTime, "d", "v"), api.ErrArg}, {del(2, "b"), api.ErrArg}, {del(api.MaxTime, "b"), api.ErrArg},
		{del(3, "a"), api.OK}, {del(8, "a"), api.OK}, {del(8, "d"), api.OK},
	} {
		if got := c.a.on(s); got != int(c.want) {
			t.Errorf("8.2: a full store: %v is %d, not %d", c.a, got, c.want)
		}
		if got := dump(s, "a", "b", "c", "d"); got != was {
			t.Errorf("8.2: a full store: %v: %s, not %s", c.a, got, was)
		}
	}
	stands(t, "a full store", s)
	// Nor has a time that was refused become one that was put in: those of time 3 are turned still.
	for _, c := range []struct {
		a    act
		want string
	}{
		{put(3, "c", "w"), "a:.xx....... 3; b:..yyyyyyyy 2; c:...wwwwwww 3; 4"},
		{put(3, "a", "u"), "a:.xxuuuuuuu 3; b:..yyyyyyyy 2; c:...wwwwwww 3; 4"},
		{del(3, "c"), "a:.xxuuuuuuu 3; b:..yyyyyyyy 2; c:.......... 3; 4"},
		{put(3, "c", "t"), "a:.xxuuuuuuu 3; b:..yyyyyyyy 2; c:...ttttttt 3; 4"},
	} {
		if e := c.a.on(s); e != int(api.OK) || dump(s, "a", "b", "c") != c.want {
			t.Errorf("8.2: a full store: %v is %d: %s, not %s", c.a, e, dump(s, "a", "b", "c"), c.want)
		}
	}
	// Room that Trim makes is room.
	if n := s.Trim(3); n != 1 || s.Put(4, "d", "v") != api.OK || s.Put(4, "e", "v") != api.ErrFull || s.Del(4, "b") != api.ErrFull {
		t.Errorf("8.4: a full store: Trim is %d, Size %d", n, s.Size())
	}
}

func TestFullOfOne(t *testing.T) {
	s := made(t, 1, put(2, "a", "x"))
	if s.Put(3, "a", "y") != api.ErrFull || s.Put(2, "b", "y") != api.ErrFull || s.Del(3, "a") != api.ErrFull {
		t.Error("8.2: a store of room 1 took two")
	}
	if s.Put(2, "a", "y") != api.OK || s.Del(2, "a") != api.OK || s.Size() != 1 || s.Trim(1) != 0 || s.Trim(2) != 1 {
		t.Error("8.2: a store of room 1: the same time")
	}
	if s.Put(1, "a", "z") != api.ErrArg || s.Put(2, "b", "z") != api.OK {
		t.Error("8.2: a store of room 1: behind Trim")
	}
}

// 8.3

func TestExample(t *testing.T) {
	s := made(t, api.MaxStore, put(1, "a", "x"), del(2, "a"))
	if v, ok := s.Get(1, "a"); v != "x" || !ok {
		t.Errorf("8.3: Get(1, a) is %q, %v", v, ok)
	}
	if v, ok := s.Get(2, "a"); v != "" || ok {
		t.Errorf("8.3: Get(2, a) is %q, %v", v, ok)
	}
	if got := s.Last("a"); got != 2 {
		t.Errorf("8.3: Last(a) is %d", got)
	}
	if n := s.Trim(2); n != 2 || s.Size() != 0 {
		t.Errorf("8.4: Trim(2) is %d, Size %d", n, s.Size())
	}
}

func TestGet(t *testing.T) {
	const end = api.MaxTime - 1
	s := made(t, 20, put(3, "", "e"), put(3, "a", "x"), put(3, "ab", "p"), put(5, "a", ""), put(7, "a", "z"), del(9, "a"), put(12, "a", "w"), del(12, "ab"), put(end, "a", "last"))
	for _, c := range []struct {
		time int
		key  string
		want string
		ok   bool
	}{
		{math.MinInt, "a", "", false}, {-3, "a", "", false}, {0, "a", "", false}, {2, "a", "", false},
		{3, "a", "x", true}, {4, "a", "x", true},
		{5, "a", "", true}, {6, "a", "", true},
		{7, "a", "z", true}, {8, "a", "z", true},
		{9, "a", "", false}, {10, "a", "", false}, {11, "a", "", false},
		{12, "a", "w", true}, {13, "a", "w", true}, {end - 1, "a", "w", true},
		{end, "a", "last", true}, {api.MaxTime, "a", "last", true}, {math.MaxInt, "a", "last", true},
		{2, "ab", "", false}, {3, "ab", "p", true}, {11, "ab", "p", true}, {12, "ab", "", false}, {math.MaxInt, "ab", "", false},
		{2, "", "", false}, {3, "", "e", true}, {99, "", "e", true},
		{99, "b", "", false}, {99, "A", "", false}, {99, "a\x00", "", false}, {99, "aa", "", false},
	} {
		if got, ok := s.Get(c.time, c.key); got != c.want || ok != c.ok {
			t.Errorf("8.3: Get(%d, %q) is %q, %v, not %q, %v", c.time, c.key, got, ok, c.want, c.ok)
		}
	}
}

// text tells pairs in one line.
func text(xs []api.Pair) string {
	var parts []string
	for _, x := range xs {
		parts = append(parts, x.Key+"="+x.Val)
	}
	return strings.Join(parts, " ")
}

func TestScan(t *testing.T) {
	s := made(t, 30, put(1, "b", "1"), put(1, "d", "1"), put(1, "f", "1"), put(2, "a", "2"), put(2, "d", "2"), del(3, "b"), put(3, "h", "3"), put(3, "g", "3"), del(3, "g"), put(4, "b", "4"), del(4, "d"), put(4, "f", ""))
	for _, c := range []struct {
		time   int
		lo, hi string
		n      int
		want   string
	}{
		{math.MinInt, "", "", 9, ""}, {-1, "", "", 9, ""}, {0, "", "", 9, ""},
		{1, "", "", 9, "b=1 d=1 f=1"}, {2, "", "", 9, "a=2 b=1 d=2 f=1"}, {3, "", "", 9, "a=2 d=2 f=1 h=3"}, {4, "", "", 9, "a=2 b=4 f= h=3"}, {math.MaxInt, "", "", 9, "a=2 b=4 f= h=3"},
		// An empty lo, an empty hi, both, neither; ends at keys and between them.
		{2, "b", "", 9, "b=1 d=2 f=1"}, {2, "c", "", 9, "d=2 f=1"}, {2, "b\x00", "", 9, "d=2 f=1"}, {2, "f", "", 9, "f=1"}, {2, "f\x00", "", 9, ""}, {2, "z", "", 9, ""},
		{2, "", "d", 9, "a=2 b=1"}, {2, "", "d\x00", 9, "a=2 b=1 d=2"}, {2, "", "c", 9, "a=2 b=1"}, {2, "", "a", 9, ""}, {2, "", "z", 9, "a=2 b=1 d=2 f=1"},
		{2, "b", "f", 9, "b=1 d=2"}, {2, "b", "c", 9, "b=1"}, {2, "e", "f", 9, ""}, {2, "a", "z", 9, "a=2 b=1 d=2 f=1"},
		// lo not below hi.
		{2, "b", "b", 9, ""}, {2, "d", "b", 9, ""}, {2, "z", "a", 9, ""},
		// Of what is gone in the range nothing is told, and it is none of the n.
		{3, "", "d", 9, "a=2"}, {3, "b", "c", 9, ""}, {3, "b", "", 1, "d=2"}, {3, "b", "", 2, "d=2 f=1"}, {3, "", "", 2, "a=2 d=2"}, {3, "f", "", 2, "f=1 h=3"}, {4, "c", "", 1, "f="}, {4, "c", "", 2, "f= h=3"},
		// So is what is not there yet.
		{1, "", "", 1, "b=1"}, {1, "", "", 2, "b=1 d=1"}, {1, "e", "", 1, "f=1"},
		{2, "", "", math.MinInt, ""}, {2, "", "", -1, ""}, {2, "", "", 0, ""}, {2, "", "", 1, "a=2"}, {2, "", "", 2, "a=2 b=1"}, {2, "", "", 3, "a=2 b=1 d=2"}, {2, "", "", 4, "a=2 b=1 d=2 f=1"}, {2, "", "", 5, "a=2 b=1 d=2 f=1"}, {2, "", "", math.MaxInt, "a=2 b=1 d=2 f=1"},
		{2, "b", "f", 1, "b=1"}, {2, "b", "f", 2, "b=1 d=2"}, {2, "b", "f", 3, "b=1 d=2"},
	} {
		if got := text(s.Scan(c.time, c.lo, c.hi, c.n)); got != c.want {
			t.Errorf("8.3: Scan(%d, %q, %q, %d) is %s, not %s", c.time, c.lo, c.hi, c.n, got, c.want)
		}
	}
}

// Keys in order byte by byte, the empty one too, whatever the order in which they came.
func TestScanByBytes(t *testing.T) {
	keys := []string{"", "\x00", "\x00\x00", "A", "a", "a\x00", "a\x00b", "aa", "a\xff", "b", "\x7f", "\x80", "\u00e9", "\U0001f600", "\xff", "\xff\x00", "\xff\xff"}
	r := rand.New(rand.NewSource(8))
	for range 20 {
		s := made(t, 99)
		for time, i := range r.Perm(len(keys)) {
			s.Put(time+1, keys[i], "v")
		}
		var got []string
		for _, x := range s.Scan(99, "", "", 99) {
			got = append(got, x.Key)
		}
		if !slices.Equal(got, keys) {
			t.Fatalf("8.3: Scan tells %q", got)
		}
		for i, lo := range keys {
			for j, hi := range keys[1:] {
				if got, want := len(s.Scan(99, lo, hi, 99)), max(j+1-i, 0); got != want {
					t.Fatalf("8.3: Scan from %q to %q tells %d, not %d", lo, hi, got, want)
				}
				if got, want := s.Since(lo, hi, 0), j+1 > i; got != want {
					t.Fatalf("8.3: Since from %q to %q is %v", lo, hi, got)
				}
			}
		}
	}
}

func TestLast(t *testing.T) {
	s := made(t, 20, put(2, "a", "x"), put(2, "b", "x"), put(2, "", "x"), put(4, "a", "y"), del(5, "b"), put(6, "c", "x"), del(6, "c"), put(6, "c", "y"), del(7, "q"), del(8, "b"))
	for k, want := range map[string]int{"": 2, "a": 4, "b": 5, "c": 6, "q": 0, "aa": 0, "A": 0} {
		if got := s.Last(k); got != want {
			t.Errorf("8.3: Last(%q) is %d, not %d", k, got, want)
		}
	}
}

func TestSince(t *testing.T) {
	s := made(t, 20, put(2, "b", "x"), put(4, "d", "x"), put(6, "b", "y"), del(7, "d"))
	for _, c := range []struct {
		lo, hi string
		time   int
		want   bool
	}{
		// At the time of a version, one ahead of it and one behind it.
		{"b", "c", 5, true}, {"b", "c", 6, false}, {"b", "c", 7, false}, {"b", "c", 2, true}, {"b", "c", 1, true}, {"b", "c", 3, true},
		// That it is gone is a version too.
		{"d", "e", 6, true}, {"d", "e", 7, false}, {"d", "e", 8, false}, {"d", "e", 3, true},
		{"", "", 6, true}, {"", "", 7, false}, {"", "", 0, true}, {"", "", -1, true}, {"", "", math.MinInt, true}, {"", "", math.MaxInt, false},
		{"", "b", 0, false}, {"", "b\x00", 0, true}, {"", "c", 5, true}, {"", "c", 6, false}, {"", "d", 6, false}, {"", "d\x00", 6, true},
		{"c", "", 6, true}, {"d", "", 6, true}, {"d\x00", "", 0, false}, {"e", "", -9, false}, {"b", "", 6, true}, {"b\x00", "d", 0, false},
		// Ranges that are empty, and ranges without keys.
		{"b", "b", 0, false}, {"d", "b", 0, false}, {"b", "a", 0, false}, {"c", "d", 0, false}, {"x", "y", 0, false},
	} {
		if got := s.Since(c.lo, c.hi, c.time); got != c.want {
			t.Errorf("8.3: Since(%q, %q, %d) is %v", c.lo, c.hi, c.time, got)
		}
	}
}

func TestSize(t *testing.T) {
	s := made(t, 9)
	for i, c := range []struct {
		a    act
		want int
	}{
		{put(1, "a", "x"), 1}, {put(1, "a", "y"), 1}, {put(1, "b", "x"), 2}, {del(1, "q"), 2}, {put(2, "a", "x"), 3}, {del(2, "b"), 4}, {del(3, "b"), 4}, {put(1, "c", "x"), 4}, {put(3, "b", "x"), 5}, {del(3, "b"), 5}, {trim(0), 5}, {trim(1), 5}, {trim(2), 2}, {trim(3), 1}, {trim(9), 1},
	} {
		c.a.on(s)
		if got := s.Size(); got != c.want {
			t.Errorf("8.3: step %d, %v: Size is %d, not %d", i, c.a, got, c.want)
		}
	}
}

// 8.4

func TestTrim(t *testing.T) {
	acts := []act{put(2, "a", "p"), put(2, "b", "q"), put(4, "a", "r"), del(4, "b"), put(5, "c", "s"), del(6, "a"), put(7, "b", "t"), put(8, "a", "u")}
	for _, c := range []struct {
		time int
		n    int
		want string
	}{
		{math.MinInt, 0, "a:..pprr..uu 8; b:..qq...ttt 7; c:.....sssss 5; 8"},
		{-1, 0, "a:..pprr..uu 8; b:..qq...ttt 7; c:.....sssss 5; 8"},
		{0, 0, "a:..pprr..uu 8; b:..qq...ttt 7; c:.....sssss 5; 8"},
		{1, 0, "a:..pprr..uu 8; b:..qq...ttt 7; c:.....sssss 5; 8"},
		{2, 0, "a:..pprr..uu 8; b:..qq...ttt 7; c:.....sssss 5; 8"},
		{3, 0, "a:..pprr..uu 8; b:..qq...ttt 7; c:.....sssss 5; 8"},
		{4, 3, "a:....rr..uu 8; b:.......ttt 7; c:.....sssss 5; 5"},
		{5, 3, "a:....rr..uu 8; b:.......ttt 7; c:.....sssss 5; 5"},
		{6, 5, "a:........uu 8; b:.......ttt 7; c:.....sssss 5; 3"},
		{7, 5, "a:........uu 8; b:.......ttt 7; c:.....sssss 5; 3"},
		{8, 5, "a:........uu 8; b:.......ttt 7; c:.....sssss 5; 3"},
		{math.MaxInt, 5, "a:........uu 8; b:.......ttt 7; c:.....sssss 5; 3"},
	} {
		s := made(t, 9, acts...)
		for again := range 3 {
			want := c.n
			if again > 0 {
				want = 0
			}
			if n := s.Trim(c.time); n != want {
				t.Errorf("8.4: Trim(%d), time %d, is %d, not %d", c.time, again+1, n, want)
			}
			if got := dump(s, "a", "b", "c"); got != c.want {
				t.Errorf("8.4: Trim(%d), time %d: %s, not %s", c.time, again+1, got, c.want)
			}
		}
		stands(t, fmt.Sprint("Trim at ", c.time), s)
		// The room that it makes is all that it said.
		for i := range c.n + 1 {
			if e := s.Put(9, fmt.Sprint("new", i), "v"); e != api.OK {
				t.Errorf("8.4: Trim(%d): new version %d is %d", c.time, i+1, e)
			}
		}
		if e := s.Put(9, "more", "v"); e != api.ErrFull {
			t.Errorf("8.4: Trim(%d): one more than it made room for is %d", c.time, e)
		}
	}
}

// Of a key whose last version is that it is gone.
func TestTrimOfWhatIsGone(t *testing.T) {
	for _, c := range []struct {
		name string
		acts []act
		n    int
		want string
	}{
		{"it is gone behind the time", []act{put(1, "a", "x"), del(6, "a")}, 0, "a:.xxxxx.... 6; 2"},
		{"it is gone just behind the time, older ones go", []act{put(1, "a", "x"), put(3, "a", "y"), del(6, "a")}, 1, "a:...yyy.... 6; 2"},
		{"it is gone at the time", []act{put(1, "a", "x"), del(5, "a")}, 2, "a:.......... 0; 0"},
		{"it is gone ahead of the time", []act{put(1, "a", "x"), del(4, "a")}, 2, "a:.......... 0; 0"},
		{"it is gone as it came", []act{put(4, "a", "x"), del(4, "a")}, 1, "a:.......... 0; 0"},
		{"it came and went twice", []act{put(1, "a", "x"), del(2, "a"), put(3, "a", "y"), del(4, "a")}, 4, "a:.......... 0; 0"},
		{"it comes again behind the time", []act{put(1, "a", "x"), del(2, "a"), put(6, "a", "y")}, 2, "a:......yyyy 6; 1"},
		{"it comes and goes behind the time", []act{put(1, "a", "x"), del(2, "a"), put(6, "a", "y"), del(8, "a")}, 2, "a:......yy.. 8; 2"},
		{"it is gone as it came, behind the time", []act{put(6, "a", "x"), del(6, "a")}, 0, "a:.......... 6; 1"},
		{"it is gone as it came, and comes again", []act{put(2, "a", "x"), del(2, "a"), put(3, "a", "y")}, 1, "a:...yyyyyyy 3; 1"},
	} {
		s := made(t, 9, c.acts...)
		if n := s.Trim(5); n != c.n || dump(s, "a") != c.want {
			t.Errorf("8.4: %s: Trim is %d, not %d; %s, not %s", c.name, n, c.n, dump(s, "a"), c.want)
		}
		stands(t, c.name, s)
		if there := s.Size() > 0; s.Since("", "", 0) != there || s.Since("", "", -1) != there {
			t.Errorf("8.4: %s: Since tells of what went", c.name)
		}
		if e := s.Put(9, "a", "z"); e != api.OK || s.Last("a") != 9 || text(s.Scan(9, "", "", 9)) != "a=z" {
			t.Errorf("8.4: %s: put in again: %d, %s", c.name, e, text(s.Scan(9, "", "", 9)))
		}
	}
}

// Behind a Trim all that is asked as of its time or later is as it was.
func TestTrimKeepsWhatIsAsked(t *testing.T) {
	r := rand.New(rand.NewSource(84))
	keys := []string{"", "a", "aa", "b", "c", "d\xff", "e", "f", "g", "h", "i", "j"}
	ranges := rangesOf("a", "c", "f", "z")
	for range 150 {
		s := made(t, 200)
		drawActs(r, 60, keys, func(a act) {
			if a.kind != 't' {
				a.on(s)
			}
		})
		time, was := r.Intn(40)-2, s.Copy()
		n := s.Trim(time)
		if n != was.Size()-s.Size() {
			t.Fatalf("8.4: Trim is %d, from %d to %d", n, was.Size(), s.Size())
		}
		for at := time; at < time+45; at++ {
			for _, k := range keys {
				v, ok := s.Get(at, k)
				if w, there := was.Get(at, k); v != w || ok != there {
					t.Fatalf("8.4: behind Trim(%d) Get(%d, %q) is %q, %v, not %q, %v", time, at, k, v, ok, w, there)
				}
			}
			for _, x := range ranges {
				if got, want := s.Scan(at, x.Lo, x.Hi, 99), was.Scan(at, x.Lo, x.Hi, 99); !slices.Equal(got, want) {
					t.Fatalf("8.4: behind Trim(%d) Scan(%d, %q, %q) is %q, not %q", time, at, x.Lo, x.Hi, got, want)
				}
				if s.Since(x.Lo, x.Hi, at) != was.Since(x.Lo, x.Hi, at) {
					t.Fatalf("8.4: behind Trim(%d) Since(%q, %q, %d) is another", time, x.Lo, x.Hi, at)
				}
			}
		}
	}
}

// 8.5

func TestCopyHasTheSame(t *testing.T) {
	acts := []act{put(2, "a", "x"), put(2, "b", "y"), del(4, "a"), put(5, "c", "z"), del(5, "c"), trim(5)}
	for i := range len(acts) + 1 {
		s := made(t, 4, acts[:i]...)
		c := s.Copy()
		if c == nil || c == s {
			t.Fatal("8.5: Copy tells no other one")
		}
		if dump(c, "a", "b", "c", "d") != dump(s, "a", "b", "c", "d") {
			t.Errorf("8.5: behind %v: %s, not %s", acts[:i], dump(c, "a", "b", "c", "d"), dump(s, "a", "b", "c", "d"))
		}
		stands(t, "a Copy", c)
		// The same room, and the same times that may come.
		for _, a := range []act{put(1, "d", "v"), put(2, "d", "v"), put(4, "d", "v"), put(5, "d", "v"), put(5, "e", "v"), put(5, "f", "v"), put(5, "g", "v"), put(5, "h", "v"), del(6, "e"), trim(5), del(6, "e"), put(6, "i", "v")} {
			if got, want := a.on(c), a.on(s); got != want {
				t.Errorf("8.5: behind %v: to the Copy %v is %d, not %d", acts[:i], a, got, want)
			}
		}
	}
}

// Neither sees what is done to the other: whatever is done, to either first.
func TestCopyIsAnother(t *testing.T) {
	keys := []string{"a", "b", "c", "d"}
	ways := [][]act{
		{put(5, "a", "n")}, {put(5, "c", "n")}, {put(5, "c", "n"), put(5, "d", "n")}, {put(7, "a", "n")}, {put(7, "d", "n"), put(8, "d", "m")},
		{del(5, "c")}, {del(6, "a")}, {del(6, "a"), del(6, "b"), del(6, "c")}, {put(5, "b", "n")}, {trim(3)}, {trim(5)}, {trim(4), put(5, "b", "n")}, {del(6, "c"), trim(6)}, {trim(9), put(9, "a", "n"), trim(9)},
	}
	for _, one := range ways {
		for _, other := range ways {
			s := made(t, 20, put(1, "a", "p"), put(2, "b", "q"), put(3, "a", "r"), del(4, "b"), put(4, "a", "s"), put(5, "c", "t"))
			c := s.Copy()
			was := dump(s, keys...)
			for _, a := range one {
				a.on(c)
			}
			if got := dump(s, keys...); got != was {
				t.Fatalf("8.5: %v, done to the Copy: %s, not %s", one, got, was)
			}
			turned, pairs := dump(c, keys...), text(c.Scan(9, "", "", 99))
			for _, a := range other {
				a.on(s)
			}
			if got := dump(c, keys...); got != turned || text(c.Scan(9, "", "", 99)) != pairs {
				t.Fatalf("8.5: %v, done to what was copied: %s, not %s", other, got, turned)
			}
			stands(t, "what was copied", s)
			stands(t, "its Copy", c)
		}
	}
}

// Of many Copies of one, and of Copies of Copies, each has its own.
func TestCopiesOfCopies(t *testing.T) {
	s := made(t, 99, put(1, "a", "0"), put(2, "a", "0"), put(3, "a", "0"))
	var all []*Store
	for i := range 8 {
		c := s.Copy()
		c.Put(4, "a", fmt.Sprint(i))
		c.Put(4, fmt.Sprint("k", i), "v")
		all = append(all, c)
		d := c.Copy()
		d.Put(4, "a", "other")
	}
	for i, c := range all {
		if got, want := text(c.Scan(9, "", "", 99)), fmt.Sprintf("a=%d k%d=v", i, i); got != want {
			t.Errorf("8.5: Copy %d: %s, not %s", i, got, want)
		}
	}
	if got := text(s.Scan(9, "", "", 99)); got != "a=0" {
		t.Errorf("8.5: what was copied: %s", got)
	}
}

func TestNilStore(t *testing.T) {
	var s *Store
	for _, time := range []int{math.MinInt, -1, 0, 1, 2, api.MaxTime - 1, api.MaxTime, math.MaxInt} {
		for _, k := range []string{"", "a"} {
			if e := s.Put(time, k, "v"); e != api.ErrNone {
				t.Errorf("8: nil: Put(%d) is %d", time, e)
			}
			if e := s.Del(time, k); e != api.ErrNone {
				t.Errorf("8: nil: Del(%d) is %d", time, e)
			}
			if v, ok := s.Get(time, k); v != "" || ok {
				t.Errorf("8: nil: Get(%d) is %q, %v", time, v, ok)
			}
			if xs := s.Scan(time, k, "", 9); len(xs) != 0 {
				t.Errorf("8: nil: Scan(%d) is %v", time, xs)
			}
			if s.Since(k, "", time) || s.Last(k) != 0 || s.Size() != 0 || s.Trim(time) != 0 || s.Copy() != nil {
				t.Errorf("8: nil: at %d something is told", time)
			}
		}
	}
}

// R1: none panics, of a store that New did not make either.
func TestStoreOfNoNew(t *testing.T) {
	s := new(Store)
	for _, x := range []*Store{s, s.Copy()} {
		if e := x.Put(1, "a", "v"); e == api.OK {
			t.Errorf("R1: Put is %d", e)
		}
		x.Del(1, "a")
		x.Trim(1)
		if xs := x.Scan(9, "", "", 9); len(xs) != 0 || x.Size() != 0 || x.Last("a") != 0 || x.Since("", "", 0) {
			t.Errorf("R1: something is told: %v", xs)
		}
	}
}

// 8.6

// What was there at a time stays there, whatever is put in behind it.
func TestWhatWasThereStays(t *testing.T) {
	r := rand.New(rand.NewSource(86))
	keys := []string{"a", "b", "c", "d", "e", "f", "g", "h", "i", "j", "k", "l"}
	for range 60 {
		s := made(t, 40+r.Intn(60))
		whole := map[int]string{}
		time := 1
		for range 120 {
			// All times ahead of the one that comes are over.
			next := time + r.Intn(3)
			for at := time; at < next; at++ {
				whole[at] = text(s.Scan(at, "", "", 99))
			}
			time = next
			if k := keys[r.Intn(len(keys))]; r.Intn(3) == 0 {
				s.Del(time, k)
			} else {
				s.Put(time, k, fmt.Sprint(r.Intn(1000)))
			}
			for at, want := range whole {
				if got := text(s.Scan(at, "", "", 99)); got != want {
					t.Fatalf("8.6: at time %d, as of %d: %s, not %s", time, at, got, want)
				}
			}
		}
	}
}

// R3

// What is told can be changed, spare room and all, without changing the store or what else was told.
func TestOwnMemory(t *testing.T) {
	keys := []string{"a", "b", "c", "d", "e", "f", "g", "h", "i", "j", "k"}
	s := made(t, 99)
	for i, k := range keys {
		s.Put(i+1, k, k)
	}
	was := dump(s, keys...)
	for _, n := range []int{1, 3, 5, 11, 99} {
		one, two := s.Scan(99, "", "", n), s.Scan(99, "", "", n)
		want := text(two)
		room := one[:cap(one)]
		for i := range room {
			room[i] = api.Pair{Key: "spoilt", Val: "spoilt"}
		}
		_ = append(one, api.Pair{Key: "spoilt"})
		if text(two) != want || text(s.Scan(99, "", "", n)) != want || dump(s, keys...) != was {
			t.Errorf("R3: Scan of %d shares memory", n)
		}
		stands(t, "what was told is spoilt", s)
	}
}

// R5: stores have nothing in common.
func TestStoresAreApart(t *testing.T) {
	one, two := made(t, 5), made(t, 5)
	one.Put(4, "a", "x")
	if two.Size() != 0 || two.Put(1, "b", "y") != api.OK || dump(one, "a", "b") != "a:....xxxxxx 4; b:.......... 0; 1" {
		t.Error("R5: two stores share something")
	}
}

// All of it

// shortRuns is all acts that runs are made of: two keys, three times, each Put with a Val that no other step has.
func shortRuns(step int) []act {
	var acts []act
	for time := 1; time <= 3; time++ {
		for _, k := range []string{"a", "b"} {
			acts = append(acts, put(time, k, fmt.Sprint(step)), del(time, k))
		}
		acts = append(acts, trim(time))
	}
	return acts
}

// All short runs over two keys and three times, in stores of little room, against the words; each act is done to a Copy, and what was copied is asked again behind it.
func TestAllShortRuns(t *testing.T) {
	a := asked{times: []int{-1, 0, 1, 2, 3}, keys: []string{"a", "b"}, ranges: []api.Range{{}, {Lo: "b"}, {Hi: "b"}}, ns: []int{1, 9}}
	var walk func(s *Store, p *plain, steps int, ran string)
	walk = func(s *Store, p *plain, steps int, ran string) {
		agree(t, ran, s, p, a)
		if steps == 0 {
			return
		}
		for _, x := range shortRuns(steps) {
			c, q := s.Copy(), p.copy()
			what := ran + " " + x.String()
			if got, want := x.on(c), x.byWords(q); got != want {
				t.Fatalf("8.2, 8.4: %s is %d, not %d", what, got, want)
			}
			walk(c, q, steps-1, what)
		}
		agree(t, ran+", asked again", s, p, a)
	}
	for _, room := range []int{1, 2, 4} {
		walk(made(t, room), &plain{room: room}, 4, fmt.Sprint("room ", room, ":"))
	}
}

// drawActs draws acts over keys with times that rise slowly, some of them wrong or behind.
func drawActs(r *rand.Rand, n int, keys []string, do func(a act)) {
	time := 1
	for i := range n {
		time += r.Intn(5) / 3
		at, k := time, keys[r.Intn(len(keys))]
		if r.Intn(8) == 0 {
			at = time - r.Intn(4)
		}
		switch x := r.Intn(20); {
		case x == 0:
			do(trim(at - r.Intn(6)))
		case x < 7:
			do(del(at, k))
		default:
			do(put(at, k, fmt.Sprint("v", i)))
		}
	}
}

// Drawn runs over many keys, so that there are many pages, against the words; one store goes through all of a run.
func TestDrawnRuns(t *testing.T) {
	r := rand.New(rand.NewSource(1))
	for run := range 60 {
		var keys []string
		for range 1 + r.Intn(40) {
			k := make([]byte, r.Intn(3))
			for i := range k {
				k[i] = "\x00ab\x7f\x80\xff"[r.Intn(6)]
			}
			keys = append(keys, string(k))
		}
		room := 1 + r.Intn(90)
		s, p := made(t, room), &plain{room: room}
		step := 0
		drawActs(r, 150, keys, func(x act) {
			step++
			what := fmt.Sprintf("run %d, step %d, %v", run, step, x)
			if got, want := x.on(s), x.byWords(p); got != want {
				t.Fatalf("8.2, 8.4: %s is %d, not %d", what, got, want)
			}
			ends := []string{keys[r.Intn(len(keys))], "a", keys[0]}
			a := asked{times: []int{x.time - 1, x.time, r.Intn(100)}, keys: ends, ranges: []api.Range{{}, {Lo: ends[0]}, {Hi: ends[0]}, {Lo: ends[1], Hi: ends[0]}, {Lo: ends[0], Hi: ends[2]}}, ns: []int{r.Intn(10) - 1, 99}}
			agree(t, what, s, p, a)
		})
	}
}

// R5: the same calls tell the same.
func TestSameCallsTellTheSame(t *testing.T) {
	keys := []string{"a", "b", "c", "d", "e", "f", "g", "h", "i", "j", "k", "l", "m", "n", "o", "p"}
	run := func() string {
		s := made(t, 50)
		var b strings.Builder
		drawActs(rand.New(rand.NewSource(5)), 300, keys, func(x act) {
			fmt.Fprintln(&b, x, x.on(s), s.Size(), text(s.Scan(x.time, "", "", 9)))
		})
		return b.String() + dump(s.Copy(), keys...)
	}
	want := run()
	for range 5 {
		if run() != want {
			t.Fatal("R5: the same calls tell another")
		}
	}
}
