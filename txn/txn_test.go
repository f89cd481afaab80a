package txn

import (
	"fmt"
	"math"
	"slices"
	"testing"

	"falsework/api"
	"falsework/store"
)

func TestExample(t *testing.T) {
	h := newShelf(t)
	h.put(1, "a", "1")
	h.put(2, "c", "2")
	b := begin(h, 2)
	b.put("b", "own")
	if got := pairsOf(b.scan("", "", 10)); got != "a=1;b=own;c=2;" {
		t.Error("15: the example:", got)
	}
	if got := show(b.command()); got != `2 [] [{"" ""}] "b"="own";` {
		t.Error("15: the example's command:", got)
	}
}

// 15.1, New

func TestNewOverNothing(t *testing.T) {
	for _, snap := range []int{math.MinInt, -1, 0, 1, 9, api.MaxTime, math.MaxInt} {
		for _, b := range []both{beginOverNil(t, snap), begin(newShelf(t), snap)} {
			if b.x == nil {
				t.Fatal("15.1: New tells nothing")
			}
			if got := show(b.command()); got != fmt.Sprint(snap, " [] [] ") {
				t.Error("15.2: a new transaction's command:", got)
			}
			b.get("a")
			b.scan("", "", 9)
			b.put("a", "own")
			b.put("c", "own too")
			b.del("b")
			b.get("a")
			b.get("b")
			if got := pairsOf(b.scan("", "", 9)); got != "a=own;c=own too;" {
				t.Error("15.1: over nothing:", got)
			}
			b.scan("b", "d", 1)
			if got := show(b.command()); got != fmt.Sprint(snap, ` ["a"] [{"" ""} {"" ""} {"b" "c\x00"}] "a"="own";-"b";"c"="own too";`) {
				t.Error("15.2: over nothing:", got)
			}
		}
	}
}

// As of each time ahead of, at and behind a version's; a snap that no store has a version of is one as well.
func TestSnaps(t *testing.T) {
	h := newShelf(t)
	h.put(5, "a", "first")
	h.put(7, "a", "second")
	h.put(7, "b", "b")
	h.del(9, "a")
	h.put(12, "a", "third")
	for _, c := range []struct {
		snap int
		val  string
		told string
	}{
		{math.MinInt, "", ""}, {-1, "", ""}, {0, "", ""}, {4, "", ""},
		{5, "first", "a=first;"}, {6, "first", "a=first;"},
		{7, "second", "a=second;b=b;"}, {8, "second", "a=second;b=b;"},
		{9, "", "b=b;"}, {11, "", "b=b;"},
		{12, "third", "a=third;b=b;"}, {13, "third", "a=third;b=b;"}, {api.MaxTime, "third", "a=third;b=b;"}, {math.MaxInt, "third", "a=third;b=b;"},
	} {
		b := begin(h, c.snap)
		if v, ok := b.get("a"); v != c.val || ok != (c.val != "") {
			t.Errorf("15.1: a as of %d: %q %v", c.snap, v, ok)
		}
		if got := pairsOf(b.scan("", "", 9)); got != c.told {
			t.Errorf("15.1: all as of %d: %s, not %s", c.snap, got, c.told)
		}
		if got := b.command(); got.Snap != c.snap {
			t.Errorf("15.2: Snap of %d: %d", c.snap, got.Snap)
		}
	}
}

// Transactions over one store see nothing of each other.
func TestNewApart(t *testing.T) {
	h := newShelf(t)
	h.put(1, "a", "1")
	one, other := begin(h, 1), begin(h, 1)
	one.put("a", "own")
	one.del("b")
	one.get("c")
	one.scan("", "", 9)
	if got := show(other.command()); got != "1 [] [] " {
		t.Error("15.2: another transaction has", got)
	}
	if got := pairsOf(other.scan("", "", 9)); got != "a=1;" {
		t.Error("15.1: another transaction reads", got)
	}
	other.get("a")
	other.put("d", "own")
	one.command()
	other.command()
	one.scan("", "", 9)
}

// 15.1, Get

// shelfOfAll has keys that are there, are gone, were never, come behind time 5, go behind it, and turn behind it.
func shelfOfAll(t *testing.T) *shelf {
	h := newShelf(t)
	h.put(1, "gone", "was")
	h.put(2, "there", "is")
	h.put(2, "goes", "still")
	h.put(2, "turns", "old")
	h.put(2, "empty", "")
	h.del(3, "gone")
	h.put(6, "comes", "new")
	h.del(6, "goes")
	h.put(7, "turns", "new")
	return h
}

func TestGetOfStoreAndOwn(t *testing.T) {
	h := shelfOfAll(t)
	stored := map[string]struct {
		val string
		ok  bool
	}{
		"there": {"is", true}, "gone": {}, "never": {}, "comes": {}, "goes": {"still", true}, "turns": {"old", true}, "empty": {"", true},
	}
	for k, want := range stored {
		// Each letter is a write, the last one counts: p puts, d deletes.
		for _, own := range []string{"", "p", "d", "pp", "pd", "dp", "dd", "pdp", "dpd", "ppd", "ddp", "pdpdpp"} {
			b := begin(h, 5)
			val, ok, keys := want.val, want.ok, []string{k}
			for i, x := range own {
				keys = nil
				if x == 'p' {
					val, ok = fmt.Sprint("own ", i), true
					b.put(k, val)
				} else {
					val, ok = "", false
					b.del(k)
				}
			}
			for range 2 {
				if v, is := b.get(k); v != val || is != ok {
					t.Errorf("15.1: %q behind own %q: %q %v, not %q %v", k, own, v, is, val, ok)
				}
			}
			if c := b.command(); !slices.Equal(c.Keys, keys) || len(c.Ranges) != 0 {
				t.Errorf("15.1: %q behind own %q: Keys are %q, not %q, Ranges %q", k, own, c.Keys, keys, c.Ranges)
			}
		}
	}
}

// What is put may be empty, and is there then; so may a key.
func TestEmpty(t *testing.T) {
	h := newShelf(t)
	b := begin(h, 5)
	if v, ok := b.get(""); v != "" || ok {
		t.Error("15.1: the empty key, which is not there:", v, ok)
	}
	b.put("", "")
	if v, ok := b.get(""); v != "" || !ok {
		t.Error("15.1: an empty Val, which was put:", v, ok)
	}
	if got := b.scan("", "", 1); !slices.Equal(got, []api.Pair{{}}) {
		t.Errorf("15.1: the empty key and Val: %q", got)
	}
	if got := show(b.command()); got != `5 [""] [{"" "\x00"}] ""="";` {
		t.Error("15.2: the empty key and Val:", got)
	}
	b.del("")
	if v, ok := b.get(""); v != "" || ok {
		t.Error("15.1: the empty key, which was deleted:", v, ok)
	}
	if got := show(b.command()); got != `5 [""] [{"" "\x00"}] -"";` {
		t.Error("15.2: the empty key deleted:", got)
	}
}

// A key stays one of Keys when it is written behind that; one that it wrote becomes none, however it is asked.
func TestKeys(t *testing.T) {
	b := begin(shelfOfAll(t), 5)
	b.get("there")
	b.get("none")
	b.put("there", "own")
	b.del("none")
	b.put("gone", "own")
	b.del("goes")
	for _, k := range []string{"there", "none", "gone", "goes"} {
		b.get(k)
	}
	b.scan("", "", 9)
	b.scan("t", "u", 1)
	if got := b.command().Keys; !slices.Equal(got, []string{"none", "there"}) {
		t.Errorf("15.1: Keys are %q", got)
	}
	b.get("turns")
	b.get("turns")
	b.get("\xff")
	b.get("A")
	b.get("turns")
	if got := b.command().Keys; !slices.Equal(got, []string{"A", "none", "there", "turns", "\xff"}) {
		t.Errorf("15.2: Keys are %q", got)
	}
}

// 15.1, Scan

// own writes over b, d, f, h as of 5: a, c, i come, b is other, d is gone; x and e, which are not there, are deleted.
func overlaid(t *testing.T) both {
	h := newShelf(t)
	for _, k := range []string{"b", "d", "f", "h"} {
		h.put(3, k, "stored")
	}
	h.put(6, "g", "later")
	h.del(7, "h")
	b := begin(h, 5)
	for _, k := range []string{"i", "c", "a", "b"} {
		b.put(k, "own")
	}
	for _, k := range []string{"x", "d", "e"} {
		b.del(k)
	}
	return b
}

func TestScanOfOwnAndStored(t *testing.T) {
	const all = "a=own;b=own;c=own;f=stored;h=stored;i=own;"
	for _, c := range []struct {
		lo, hi string
		n      int
		told   string
		noted  api.Range
	}{
		{"", "", 99, all, api.Range{}},
		{"", "", math.MaxInt, all, api.Range{}},
		{"", "", 7, all, api.Range{}},
		{"", "", 6, all, api.Range{Hi: "i\x00"}},
		{"", "", 5, "a=own;b=own;c=own;f=stored;h=stored;", api.Range{Hi: "h\x00"}},
		{"", "", 4, "a=own;b=own;c=own;f=stored;", api.Range{Hi: "f\x00"}},
		{"", "", 1, "a=own;", api.Range{Hi: "a\x00"}},
		{"b", "", 2, "b=own;c=own;", api.Range{Lo: "b", Hi: "c\x00"}},
		{"b\x00", "", 2, "c=own;f=stored;", api.Range{Lo: "b\x00", Hi: "f\x00"}},
		{"b", "f", 9, "b=own;c=own;", api.Range{Lo: "b", Hi: "f"}},
		{"b", "f", 3, "b=own;c=own;", api.Range{Lo: "b", Hi: "f"}},
		{"b", "f", 2, "b=own;c=own;", api.Range{Lo: "b", Hi: "c\x00"}},
		{"b", "f\x00", 9, "b=own;c=own;f=stored;", api.Range{Lo: "b", Hi: "f\x00"}},
		{"b", "f\x00\x00", 3, "b=own;c=own;f=stored;", api.Range{Lo: "b", Hi: "f\x00"}},
		{"d", "f", 1, "", api.Range{Lo: "d", Hi: "f"}},
		{"d", "f", math.MaxInt, "", api.Range{Lo: "d", Hi: "f"}},
		{"f", "f", 1, "", api.Range{Lo: "f", Hi: "f"}},
		{"h", "b", 1, "", api.Range{Lo: "h", Hi: "b"}},
		{"g", "hh", 1, "h=stored;", api.Range{Lo: "g", Hi: "h\x00"}},
		{"i", "", 1, "i=own;", api.Range{Lo: "i", Hi: "i\x00"}},
		{"i", "", 2, "i=own;", api.Range{Lo: "i"}},
		{"j", "", 1, "", api.Range{Lo: "j"}},
		{"", "a", 1, "", api.Range{Hi: "a"}},
		{"", "a\x00", 1, "a=own;", api.Range{Hi: "a\x00"}},
		{"", "\x00", 1, "", api.Range{Hi: "\x00"}},
		{"x", "y", 1, "", api.Range{Lo: "x", Hi: "y"}},
	} {
		b := overlaid(t)
		if got := pairsOf(b.scan(c.lo, c.hi, c.n)); got != c.told {
			t.Errorf("15.1: Scan of %q, %q, %d: %s, not %s", c.lo, c.hi, c.n, got, c.told)
		}
		if got := b.command(); !slices.Equal(got.Ranges, []api.Range{c.noted}) || len(got.Keys) != 0 {
			t.Errorf("15.1: Scan of %q, %q, %d: noted is %q, not %q, Keys %q", c.lo, c.hi, c.n, got.Ranges, c.noted, got.Keys)
		}
	}
}

func TestScanOfNone(t *testing.T) {
	b := overlaid(t)
	for _, n := range []int{0, -1, -2, -api.MaxStore, math.MinInt} {
		for _, x := range []api.Range{{}, {Lo: "b"}, {Lo: "b", Hi: "d"}, {Lo: "d", Hi: "b"}} {
			if got := b.scan(x.Lo, x.Hi, n); len(got) != 0 {
				t.Errorf("15.1: Scan of %d: %q", n, got)
			}
		}
	}
	if got := b.command(); len(got.Ranges) != 0 || len(got.Keys) != 0 {
		t.Errorf("15.1: n below 1 is noted: %q %q", got.Ranges, got.Keys)
	}
}

// Each pair of ends at, and between, keys, with each n around how many there are.
func TestScanEnds(t *testing.T) {
	b := overlaid(t)
	ends := []string{"", "\x00"}
	for c := 'a'; c <= 'j'; c++ {
		ends = append(ends, string(c), string(c)+"\x00")
	}
	for _, lo := range ends {
		for _, hi := range append(ends, "\xff") {
			many := len(b.scan(lo, hi, api.MaxStore))
			for n := -1; n <= many+1; n++ {
				b.scan(lo, hi, n)
			}
		}
	}
	b.command()
}

// Own Dels ahead of what is told do not make it less.
func TestScanBehindManyDels(t *testing.T) {
	h := newShelf(t)
	for i := range 50 {
		h.put(1, fmt.Sprintf("%02d", i), "stored")
	}
	b := begin(h, 1)
	for i := range 40 {
		b.del(fmt.Sprintf("%02d", i))
	}
	if got := pairsOf(b.scan("", "", 2)); got != "40=stored;41=stored;" {
		t.Error("15.1: behind many Dels:", got)
	}
	b.scan("", "", 9)
	b.scan("", "", 10)
	b.scan("", "", 11)
	if got := fmt.Sprintf("%q", b.command().Ranges); got != `[{"" "41\x00"} {"" "48\x00"} {"" "49\x00"} {"" ""}]` {
		t.Error("15.1: behind many Dels, noted:", got)
	}
}

// A full store, and as many own writes.
func TestScanOfMany(t *testing.T) {
	h := newShelf(t)
	for i := range api.MaxStore {
		h.put(1, fmt.Sprintf("%05d", 2*i), "")
	}
	x := New(h.s, 1)
	for i := range api.MaxStore {
		x.Put(fmt.Sprintf("%05d", 2*i+1), "")
	}
	for _, n := range []int{2*api.MaxStore + 1, 2 * api.MaxStore, 2*api.MaxStore - 1, 3} {
		got := x.Scan("", "", n)
		if len(got) != min(n, 2*api.MaxStore) {
			t.Fatal("15.1: of", n, len(got))
		}
		for i, p := range got {
			if p.Key != fmt.Sprintf("%05d", i) {
				t.Fatal("15.1: number", i, p.Key)
			}
		}
	}
}

// 15.1, Put and Del: of each key the last one counts, in what is read and in what is written.
func TestLastCounts(t *testing.T) {
	b := begin(shelfOfAll(t), 5)
	b.put("new", "1")
	b.put("there", "1")
	b.scan("", "", 99)
	b.put("new", "2")
	b.del("there")
	b.del("gone")
	b.put("gone", "3")
	if got := pairsOf(b.scan("g", "", 99)); got != "goes=still;gone=3;new=2;turns=old;" {
		t.Error("15.1: Scan behind writes:", got)
	}
	if got := writesOf(b.command()); got != `"gone"="3";"new"="2";-"there";` {
		t.Error("15.1: the last ones:", got)
	}
	b.put("there", "")
	b.del("new")
	b.del("gone")
	b.put("gone", "4")
	if got := writesOf(b.command()); got != `"gone"="4";-"new";"there"="";` {
		t.Error("15.1: the last ones, again:", got)
	}
}

// 15.2

func TestCommand(t *testing.T) {
	b := overlaid(t)
	for _, k := range []string{"z", "f", "\xff\xff", "f\x00", "", "f", "Z", "z"} {
		b.get(k)
	}
	b.scan("k", "m", 3)
	b.scan("", "", 1)
	b.scan("k", "m", 3)
	b.scan("k", "m", 0)
	b.scan("", "", 1)
	b.scan("", "a\x00", 9)
	b.scan("f", "b", 9)
	b.put("", "first")
	b.put("\xff", "last")
	b.put("a\x00", "between")
	want := `5 ["" "Z" "f" "f\x00" "z" "\xff\xff"]` +
		` [{"k" "m"} {"" "a\x00"} {"k" "m"} {"" "a\x00"} {"" "a\x00"} {"f" "b"}]` +
		` ""="first";"a"="own";"a\x00"="between";"b"="own";"c"="own";-"d";-"e";"i"="own";-"x";"\xff"="last";`
	for range 2 {
		if got := show(b.command()); got != want {
			t.Errorf("15.2: %s, not %s", got, want)
		}
	}
}

// More than a log takes is told all the same: which commands may be is not asked here.
func TestCommandOfMany(t *testing.T) {
	x := New(nil, -7)
	for i := range 300 {
		x.Get(fmt.Sprintf("%03d", 299-i))
		x.Scan(fmt.Sprint(i), "", 1)
		x.Put(fmt.Sprintf("%03d", (i*7)%300), "")
	}
	c := x.Command()
	if c.Snap != -7 || len(c.Ranges) != 300 || len(c.Writes) != 300 {
		t.Fatal("15.2: of many:", c.Snap, len(c.Ranges), len(c.Writes))
	}
	for i := range 300 {
		if k := fmt.Sprintf("%03d", i); c.Writes[i].Key != k || c.Ranges[i].Lo != fmt.Sprint(i) {
			t.Fatal("15.2: number", i, c.Writes[i], c.Ranges[i])
		}
	}
	if !slices.IsSorted(c.Keys) || len(slices.Compact(c.Keys)) != len(x.Command().Keys) {
		t.Errorf("15.2: Keys %q", c.Keys)
	}
}

// R3: whoever writes into what was told, or behind it, changes nothing.
func TestToldIsNew(t *testing.T) {
	b := overlaid(t)
	b.get("z")
	b.get("y")
	b.scan("k", "m", 3)
	b.scan("l", "", 3)
	want, stored := show(b.command()), b.p.h.dump()
	for range 3 {
		spoil(b.x.Command())
		if got := show(b.command()); got != want {
			t.Fatalf("15.2: behind a spoilt command: %s, not %s", got, want)
		}
	}
	first, second := b.x.Command(), b.x.Command()
	spoil(first)
	if show(second) != want {
		t.Error("15.2: two commands have memory in common")
	}
	one, two := b.scan("", "", 9), b.scan("", "", 9)
	told := pairsOf(two)
	for i := range one[:cap(one)] {
		one[:cap(one)][i] = api.Pair{Key: "spoilt", Val: "spoilt"}
	}
	if pairsOf(two) != told || pairsOf(b.scan("", "", 9)) != told || b.p.h.dump() != stored {
		t.Error("15.1: what Scan tells is not new")
	}
	b.command()
}

func spoil(c api.Command) {
	for i := range c.Keys[:cap(c.Keys)] {
		c.Keys[:cap(c.Keys)][i] = "spoilt"
	}
	for i := range c.Ranges[:cap(c.Ranges)] {
		c.Ranges[:cap(c.Ranges)][i] = api.Range{Lo: "spoilt", Hi: "spoilt"}
	}
	for i := range c.Writes[:cap(c.Writes)] {
		c.Writes[:cap(c.Writes)][i] = api.Write{Key: "spoilt", Val: "spoilt", Del: true}
	}
}

// A command that was told does not turn with what is done behind it.
func TestToldStays(t *testing.T) {
	b := overlaid(t)
	for i := range 20 {
		c := b.command()
		was := show(c)
		b.get(fmt.Sprint(i))
		b.scan(fmt.Sprint(i), "", 2)
		b.put(fmt.Sprint(i), "own")
		b.del("a")
		if show(c) != was {
			t.Fatal("15.2: a command turns behind its telling")
		}
	}
}

// Methods of nil

func TestNil(t *testing.T) {
	var x *Txn
	x.Put("a", "1")
	x.Del("b")
	for _, k := range []string{"", "a", "b"} {
		if v, ok := x.Get(k); v != "" || ok {
			t.Errorf("15: Get of nil: %q %v", v, ok)
		}
	}
	for _, n := range []int{math.MinInt, -1, 0, 1, math.MaxInt} {
		if got := x.Scan("", "", n); got != nil {
			t.Errorf("15: Scan of nil: %q", got)
		}
	}
	c := x.Command()
	if show(c) != "0 [] [] " {
		t.Error("15: Command of nil:", show(c))
	}
	elseZero(t, c)
}

// A transaction that New did not make panics nowhere either (R1).
func TestNotMadeByNew(t *testing.T) {
	for i, call := range []func(x *Txn){
		func(x *Txn) { x.Get("a") }, func(x *Txn) { x.Scan("", "", 3) }, func(x *Txn) { x.Put("a", "1") }, func(x *Txn) { x.Del("a") }, func(x *Txn) { x.Command() },
	} {
		x := new(Txn)
		call(x)
		x.Put("b", "own")
		if v, ok := x.Get("b"); v != "own" || !ok {
			t.Error("15: not made by New, call", i, v, ok)
		}
	}
}

// 15.3

func TestNothingIsWritten(t *testing.T) {
	h := shelfOfAll(t)
	was := h.dump()
	for _, snap := range []int{0, 5, 7, 9} {
		b := begin(h, snap)
		for _, k := range []string{"there", "gone", "never", "comes"} {
			b.put(k, "own")
			b.get(k)
			b.scan("", "", 3)
			b.command()
			b.del(k)
			b.command()
		}
	}
	if h.dump() != was {
		t.Errorf("15.3: the store is %s, and was %s", h.dump(), was)
	}
	full, _ := store.New(1)
	full.Put(1, "a", "1")
	x := New(full, 1)
	x.Put("b", "2")
	if got := pairsOf(x.Scan("", "", 9)); got != "a=1;b=2;" || full.Size() != 1 {
		t.Error("15.3: a full store is no bound:", got, full.Size())
	}
}

// Versions behind snap, whenever they come, change nothing of what is read.
func TestLaterVersions(t *testing.T) {
	h := shelfOfAll(t)
	b := begin(h, 7)
	b.put("own", "1")
	b.del("there")
	read := func() string {
		s := pairsOf(b.scan("", "", 99)) + " " + pairsOf(b.scan("e", "p", 2))
		for _, k := range []string{"there", "gone", "turns", "comes", "never", "own", "empty"} {
			v, ok := b.get(k)
			s += fmt.Sprintf(" %s/%v", v, ok)
		}
		return s
	}
	was := read()
	if was != "comes=new;empty=;own=1;turns=new; empty=;own=1; /false /false new/true new/true /false 1/true /true" {
		t.Fatal("15.3: what is read at first:", was)
	}
	for i, k := range []string{"there", "gone", "turns", "comes", "never", "own", "empty", "", "zz"} {
		h.put(8+i, k, "later")
		if got := read(); got != was {
			t.Errorf("15.3: behind a later version of %q: %s, was %s", k, got, was)
		}
	}
	for _, k := range []string{"turns", "comes", "empty"} {
		h.del(20, k)
		if got := read(); got != was {
			t.Errorf("15.3: %q gone later: %s, was %s", k, got, was)
		}
	}
	if got := b.command(); got.Snap != 7 || !slices.Equal(got.Keys, []string{"comes", "empty", "gone", "never", "turns"}) {
		t.Errorf("15.2: Snap and Keys behind later versions: %d %q", got.Snap, got.Keys)
	}
}
