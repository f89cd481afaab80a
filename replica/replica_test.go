package replica

import (
	"fmt"
	"math"
	"slices"
	"strings"
	"testing"

	"falsework/api"
)

const (
	lowest  = math.MinInt
	highest = math.MaxInt
	latest  = api.MaxTime - 1
)

// entries makes a log of these Times.
func entries(times ...int) []api.Entry {
	var l []api.Entry
	for _, at := range times {
		l = append(l, api.Entry{Time: at, Data: fmt.Sprint("of ", at)})
	}
	return l
}

// long makes a log of n entries, with Times 10, 20, ..
func long(n int) []api.Entry {
	var l []api.Entry
	for i := range n {
		l = append(l, api.Entry{Time: 10 * (i + 1)})
	}
	return l
}

// made makes a replica in a view with a log, nothing of it committed; one that is not normal was so in the view before.
func made(id, n, view, how int, log []api.Entry) api.Replica {
	r := api.Replica{ID: id, N: n, View: view, Normal: view, How: how, Log: log, Acked: make([]int, n), BestView: -1}
	if how != api.IsNormal {
		r.Normal = view - 1
	}
	if how == api.IsChanging {
		r.Votes = []int{id}
	}
	r.Acked[id] = len(log)
	return r
}

// with makes another replica of r.
func with(r api.Replica, turn func(*api.Replica)) api.Replica {
	r = clone(r)
	if turn != nil {
		turn(&r)
	}
	return r
}

// told holds what a call has told against what it must tell.
func told(t *testing.T, name string, r api.Replica, out []api.Message, e api.Errno, want api.Replica, wantOut []api.Message, wantE api.Errno) {
	t.Helper()
	if e != wantE {
		t.Fatalf("%s: error %d, want %d", name, e, wantE)
	}
	if !sameReplica(r, want) {
		t.Fatalf("%s:\nis   %s\nwant %s", name, text(r), text(want))
	}
	if !sameMessages(out, wantOut) {
		t.Fatalf("%s:\nsent %s\nwant %s", name, texts(out), texts(wantOut))
	}
}

// takes lets r take m: it must then be as turn makes it, and have sent out.
func takes(t *testing.T, name string, r api.Replica, m api.Message, turn func(*api.Replica), out ...api.Message) api.Replica {
	t.Helper()
	if !May(r) {
		t.Fatalf("%s: %s may not be", name, text(r))
	}
	next, sent, e := Take(r, m)
	told(t, name, next, sent, e, with(r, turn), out, api.OK)
	return next
}

// refuses lets r take m, which it must not.
func refuses(t *testing.T, name string, r api.Replica, m api.Message) {
	t.Helper()
	next, sent, e := Take(r, m)
	told(t, name, next, sent, e, r, nil, api.ErrArg)
}

// toAll makes messages from r to all others.
func toAll(r api.Replica, m api.Message) []api.Message {
	var out []api.Message
	for to := range r.N {
		if to != r.ID {
			m.From, m.To = r.ID, to
			out = append(out, m)
		}
	}
	return out
}

func TestExample(t *testing.T) {
	var all [3]api.Replica
	for i := range all {
		r, e := New(i, 3)
		if e != api.OK {
			t.Fatal("New", i, e)
		}
		all[i] = r
	}
	p, out, place, e := Propose(all[0], 5, "x")
	entry := []api.Entry{{Time: 5, Data: "x"}}
	wantP := api.Replica{N: 3, Log: entry, Acked: []int{1, 0, 0}, BestView: -1}
	told(t, "Propose", p, out, e, wantP, []api.Message{
		{Kind: api.MsgPrepare, From: 0, To: 1, Index: 1, Log: entry},
		{Kind: api.MsgPrepare, From: 0, To: 2, Index: 1, Log: entry},
	}, api.OK)
	if place != 1 {
		t.Fatal("place", place)
	}
	var answers []api.Message
	for i, m := range out {
		r := takes(t, "MsgPrepare", all[i+1], m, func(r *api.Replica) { r.Log = entry }, api.Message{Kind: api.MsgPrepared, From: i + 1, To: 0, Index: 1})
		if r.Commit != 0 {
			t.Fatal("Commit", r.Commit)
		}
		answers = append(answers, api.Message{Kind: api.MsgPrepared, From: i + 1, To: 0, Index: 1})
	}
	for i, m := range answers {
		takes(t, "MsgPrepared", p, m, func(r *api.Replica) { r.Commit, r.Acked[i+1] = 1, 1 },
			api.Message{Kind: api.MsgCommit, From: 0, To: 1, Commit: 1}, api.Message{Kind: api.MsgCommit, From: 0, To: 2, Commit: 1})
	}
}

func TestNew(t *testing.T) {
	some := 0
	for _, n := range []int{lowest, -5, -3, -1, 0, 1, 2, 3, 4, 5, 6, 7, 9, highest} {
		for _, id := range []int{lowest, -2, -1, 0, 1, 2, 3, 4, 5, 6, n - 1, n, n + 1, highest} {
			r, e := New(id, n)
			want, wantE := newByWords(id, n)
			told(t, fmt.Sprint("New ", id, n), r, nil, e, want, nil, api.Errno(wantE))
			if e == api.OK {
				some++
			}
			if May(r) != (e == api.OK) {
				t.Fatal("May of New", id, n)
			}
		}
	}
	if some == 0 {
		t.Fatal("none was made")
	}
	for _, c := range []struct{ id, n int }{{0, 1}, {0, 3}, {2, 3}, {0, 5}, {4, 5}} {
		r, e := New(c.id, c.n)
		want := api.Replica{ID: c.id, N: c.n, How: api.IsNormal, Acked: make([]int, c.n), BestView: -1}
		told(t, fmt.Sprint("New ", c), r, nil, e, want, nil, api.OK)
	}
	for _, c := range []struct{ id, n int }{{0, 0}, {0, 2}, {0, 4}, {0, 6}, {-1, 1}, {1, 1}, {-1, 3}, {3, 3}, {-1, 5}, {5, 5}, {lowest, 3}, {highest, 3}, {0, lowest}, {0, highest}, {-1, -1}} {
		r, e := New(c.id, c.n)
		told(t, fmt.Sprint("New ", c), r, nil, e, api.Replica{}, nil, api.ErrArg)
	}
}

// turned is one way to turn a replica, and whether it then may be.
type turned struct {
	name string
	turn func(r *api.Replica)
	may  bool
}

// numbers makes ways that put each of these numbers at a place.
func numbers(name string, put func(r *api.Replica, n int), may bool, ns ...int) []turned {
	var all []turned
	for _, n := range ns {
		all = append(all, turned{fmt.Sprint(name, " ", n), func(r *api.Replica) { put(r, n) }, may})
	}
	return all
}

// logs makes ways that put logs at a place, some that may be and some that may not.
func logs(name string, put func(r *api.Replica, l []api.Entry)) []turned {
	var all []turned
	add := func(what string, may bool, l []api.Entry) {
		all = append(all, turned{name + " " + what, func(r *api.Replica) { put(r, l) }, may})
	}
	add("of the most entries", true, long(1000))
	add("of one more", false, long(1001))
	add("of Times 1, 2, 3", true, entries(1, 2, 3))
	add("of the last Times", true, entries(latest-2, latest-1, latest))
	add("of the first and the last", true, entries(1, 2, latest))
	add("of a Time 0", false, entries(0, 1, 2))
	add("of a Time below 0", false, entries(-1, 1, 2))
	add("of the lowest", false, entries(lowest, 1, 2))
	add("of Times that stand still", false, entries(1, 2, 2))
	add("of Times that stand still at first", false, entries(2, 2, 3))
	add("of Times that fall", false, entries(1, 3, 2))
	add("of a Time that falls to 0", false, entries(1, 2, 0))
	add("of MaxTime", false, entries(1, 2, api.MaxTime))
	add("of the highest", false, entries(1, 2, highest))
	for i := range 3 {
		l := entries(1, 2, 3)
		l[i].Data = strings.Repeat("d", 20000)
		add(fmt.Sprint("of Data of the most bytes at ", i), true, l)
		l = slices.Clone(l)
		l[i].Data += "d"
		add(fmt.Sprint("of Data of one more at ", i), false, l)
	}
	return all
}

// allTurned are ways to turn a replica 1 of 3, normal in view 4, with 3 entries.
func allTurned() []turned {
	view := func(r *api.Replica, n int) { r.View, r.Normal = n, n }
	behind := func(r *api.Replica, n int) { r.View, r.How, r.Normal = latest, api.IsChanging, n }
	how := func(r *api.Replica, n int) { r.How = n }
	acked := func(r *api.Replica, n int) { r.Acked[n%3] = n }
	fit := func(l []api.Entry, r *api.Replica) {
		r.Acked[1] = min(len(l), 3)
	}
	all := slices.Concat(
		numbers("N", func(r *api.Replica, n int) { r.N, r.Acked = n, make([]int, max(0, min(n, 9))) }, false, lowest, -3, -1, 0, 1, 2, 4, 6, 7, highest),
		numbers("N", func(r *api.Replica, n int) { r.N, r.Acked = n, make([]int, n) }, true, 3, 5),
		numbers("N, ID 0", func(r *api.Replica, n int) { r.N, r.ID, r.Acked = n, 0, make([]int, n) }, true, 1, 3, 5),
		numbers("ID", func(r *api.Replica, n int) { r.ID = n }, true, 0, 1, 2),
		numbers("ID", func(r *api.Replica, n int) { r.ID = n }, false, lowest, -1, 3, 4, highest),
		numbers("View, Normal", view, true, 0, 1, latest-1, latest),
		numbers("View, Normal", view, false, lowest, -1, api.MaxTime, api.MaxTime+1, highest),
		numbers("Normal behind View", behind, true, 0, 1, latest-1, latest),
		numbers("Normal behind View", behind, false, lowest, -1, api.MaxTime, highest),
		numbers("IsNormal, Normal", func(r *api.Replica, n int) { r.Normal = n }, false, 0, 3, 5),
		numbers("IsAsking, Normal", func(r *api.Replica, n int) { r.How, r.Normal = api.IsAsking, n }, true, 0, 3, 4),
		numbers("IsAsking, Normal", func(r *api.Replica, n int) { r.How, r.Normal = api.IsAsking, n }, false, -1, 5, highest),
		numbers("IsChanging, Normal", func(r *api.Replica, n int) { r.How, r.Normal = api.IsChanging, n }, true, 0, 3, 4),
		numbers("IsChanging, Normal", func(r *api.Replica, n int) { r.How, r.Normal = api.IsChanging, n }, false, -1, 5, highest),
		numbers("How", how, true, 0, 1, 2),
		numbers("How", how, false, lowest, -1, 3, 4, highest),
		numbers("Commit", func(r *api.Replica, n int) { r.Commit = n }, true, 0, 1, 3),
		numbers("Commit", func(r *api.Replica, n int) { r.Commit = n }, false, lowest, -1, 4, highest),
		numbers("Acked", acked, true, 0, 1, 2, 3),
		numbers("Acked", func(r *api.Replica, n int) { r.Acked[0] = n }, false, lowest, -1, 4, highest),
		numbers("Acked", func(r *api.Replica, n int) { r.Acked[2] = n }, false, lowest, -1, 4, highest),
		numbers("so many Acked", func(r *api.Replica, n int) { r.Acked = make([]int, n) }, true, 3),
		numbers("so many Acked", func(r *api.Replica, n int) { r.Acked = make([]int, n) }, false, 0, 1, 2, 4, 5),
		numbers("BestView", func(r *api.Replica, n int) { r.BestView = n }, true, -1, 0, 4, 5, latest-1, latest),
		numbers("BestView", func(r *api.Replica, n int) { r.BestView = n }, false, lowest, -2, api.MaxTime, highest),
		numbers("BestDone", func(r *api.Replica, n int) { r.BestDone = n }, true, 0),
		numbers("BestDone", func(r *api.Replica, n int) { r.BestDone = n }, false, lowest, -1, 1, 3, highest),
		numbers("BestDone of 2", func(r *api.Replica, n int) { r.BestDone, r.Best = n, entries(1, 2) }, true, 0, 1, 2),
		numbers("BestDone of 2", func(r *api.Replica, n int) { r.BestDone, r.Best = n, entries(1, 2) }, false, lowest, -1, 3, highest),
		logs("Log", func(r *api.Replica, l []api.Entry) { r.Log = l; fit(l, r) }),
		logs("Best", func(r *api.Replica, l []api.Entry) { r.Best = l }),
	)
	for _, c := range []struct {
		ids []int
		may bool
	}{
		{nil, true}, {[]int{}, true}, {[]int{0}, true}, {[]int{1}, true}, {[]int{2}, true}, {[]int{0, 2}, true}, {[]int{0, 1, 2}, true},
		{[]int{-1}, false}, {[]int{3}, false}, {[]int{lowest}, false}, {[]int{highest}, false}, {[]int{1, 1}, false}, {[]int{0, 0}, false}, {[]int{1, 0}, false},
		{[]int{0, 2, 1}, false}, {[]int{0, 1, 1}, false}, {[]int{0, 1, 3}, false}, {[]int{0, 1, 2, 3}, false}, {[]int{-1, 0, 1}, false}, {[]int{0, 1, 2, 2}, false},
	} {
		all = append(all, turned{fmt.Sprint("Votes ", c.ids), func(r *api.Replica) { r.Votes = c.ids }, c.may})
		all = append(all, turned{fmt.Sprint("Voters ", c.ids), func(r *api.Replica) { r.Voters = c.ids }, c.may})
	}
	return all
}

func TestMay(t *testing.T) {
	if May(api.Replica{}) {
		t.Error("a replica of none")
	}
	base := made(1, 3, 4, api.IsNormal, entries(1, 2, 3))
	if !May(base) {
		t.Fatal("the replica that is turned")
	}
	for _, c := range allTurned() {
		r := with(base, c.turn)
		if May(r) != c.may || mayByWords(r) != c.may {
			t.Errorf("%s: %v, by the words %v, want %v", c.name, May(r), mayByWords(r), c.may)
		}
	}
}

// Every call that is handed a replica that may not be: ErrArg, and r as it was.
func TestMayOfAllCalls(t *testing.T) {
	for _, c := range allTurned() {
		r := with(made(1, 3, 4, api.IsNormal, entries(1, 2, 3)), c.turn)
		if c.may {
			if _, e := Restart(r); e != api.OK {
				t.Errorf("Restart: %s: %d", c.name, e)
			}
			continue
		}
		next, out, place, e := Propose(r, 5, "x")
		told(t, "Propose: "+c.name, next, out, e, r, nil, api.ErrArg)
		if place != 0 {
			t.Errorf("%s: place %d", c.name, place)
		}
		next, out, e = Suspect(r)
		told(t, "Suspect: "+c.name, next, out, e, r, nil, api.ErrArg)
		for kind := api.MsgPrepare; kind <= api.MsgLog; kind++ {
			refuses(t, "Take: "+c.name, r, api.Message{Kind: kind, From: 0, To: r.ID, View: 3, Log: entries(5)})
		}
		next, e = Restart(r)
		told(t, "Restart: "+c.name, next, nil, e, r, nil, api.ErrArg)
	}
}

func TestProposeErrors(t *testing.T) {
	tooMuch := strings.Repeat("d", 20001)
	isIt := made(0, 3, 3, api.IsNormal, entries(10))
	isNot := made(1, 3, 3, api.IsNormal, entries(10))
	full, late := made(0, 3, 3, api.IsNormal, long(1000)), made(0, 3, 3, api.IsNormal, entries(latest))
	fullNot, lateNot := made(2, 3, 3, api.IsNormal, long(1000)), made(2, 3, 3, api.IsNormal, entries(latest))
	may := made(0, 3, 3, api.IsNormal, entries(10, 10))
	for i, c := range []struct {
		r    api.Replica
		time int
		data string
		e    api.Errno
	}{
		{isIt, -1, "", api.ErrArg}, {isIt, lowest, "", api.ErrArg}, {isIt, api.MaxTime, "", api.ErrArg}, {isIt, highest, "", api.ErrArg}, {isIt, 1, tooMuch, api.ErrArg},
		{isNot, -1, "", api.ErrArg}, {isNot, 1, tooMuch, api.ErrArg}, {isNot, api.MaxTime, "", api.ErrArg},
		{full, -1, "", api.ErrArg}, {full, 1, tooMuch, api.ErrArg}, {late, -1, "", api.ErrArg}, {late, api.MaxTime, "", api.ErrArg},
		{may, 1, "", api.ErrArg}, {may, -1, tooMuch, api.ErrArg},
		{isNot, 1, "", api.ErrPrimary}, {made(2, 3, 3, api.IsNormal, nil), 1, "", api.ErrPrimary},
		{made(0, 3, 3, api.IsChanging, nil), 1, "", api.ErrPrimary}, {made(0, 3, 3, api.IsAsking, nil), 1, "", api.ErrPrimary},
		{made(0, 1, 3, api.IsChanging, nil), 1, "", api.ErrPrimary}, {made(0, 1, 3, api.IsAsking, nil), 1, "", api.ErrPrimary},
		{made(0, 5, 4, api.IsNormal, nil), 1, "", api.ErrPrimary}, {made(4, 5, 5, api.IsNormal, nil), 1, "", api.ErrPrimary},
		{fullNot, 1, "", api.ErrPrimary}, {lateNot, 1, "", api.ErrPrimary}, {with(full, func(r *api.Replica) { r.How = api.IsAsking }), 1, "", api.ErrPrimary},
		{full, 1, "", api.ErrFull}, {full, latest, "", api.ErrFull}, {late, 0, "", api.ErrFull}, {late, latest, "", api.ErrFull},
		{made(0, 1, 3, api.IsNormal, long(1000)), 1, "", api.ErrFull}, {made(0, 1, 3, api.IsNormal, entries(latest)), 1, "", api.ErrFull},
	} {
		r, out, place, e := Propose(c.r, c.time, c.data)
		told(t, fmt.Sprint("Propose ", i), r, out, e, c.r, nil, c.e)
		if place != 0 {
			t.Errorf("Propose %d: place %d", i, place)
		}
	}
}

func TestProposeTimes(t *testing.T) {
	for _, c := range []struct {
		log        []api.Entry
		time, want int
	}{
		{nil, 0, 1}, {nil, 1, 1}, {nil, 2, 2}, {nil, latest, latest},
		{entries(1), 0, 2}, {entries(1), 1, 2}, {entries(1), 2, 2}, {entries(1), 3, 3},
		{entries(5, 10), 0, 11}, {entries(5, 10), 9, 11}, {entries(5, 10), 10, 11}, {entries(5, 10), 11, 11}, {entries(5, 10), 12, 12}, {entries(5, 10), latest, latest},
		{entries(latest - 1), 0, latest}, {entries(latest - 1), latest - 1, latest}, {entries(latest - 1), latest, latest}, {entries(latest - 2), 0, latest - 1},
		{long(999), 0, 9991}, {long(999), 9992, 9992},
	} {
		for _, n := range []int{1, 3, 5} {
			r := made(0, n, 0, api.IsNormal, c.log)
			next, out, place, e := Propose(r, c.time, "x")
			if e != api.OK || place != len(c.log)+1 || len(next.Log) != place || next.Log[place-1] != (api.Entry{Time: c.want, Data: "x"}) {
				t.Fatalf("Propose at %d behind %d entries: %d, place %d, %s", c.time, len(c.log), e, place, text(next))
			}
			if !May(next) || len(out) != n-1 {
				t.Fatalf("Propose at %d: %s %s", c.time, text(next), texts(out))
			}
		}
	}
}

func TestPropose(t *testing.T) {
	data := strings.Repeat("d", 20000)
	r := made(2, 5, 7, api.IsNormal, entries(3, 9))
	r.Commit, r.Acked, r.Votes, r.Voters, r.Best, r.BestView, r.BestDone = 1, []int{2, 1, 0, 1, 0}, []int{1}, []int{3}, entries(4), 2, 1
	next, out, place, e := Propose(r, 20, data)
	entry := api.Entry{Time: 20, Data: data}
	want := with(r, func(r *api.Replica) { r.Log, r.Acked[2] = append(r.Log, entry), 3 })
	m := api.Message{Kind: api.MsgPrepare, From: 2, View: 7, Index: 3, Commit: 1, Log: []api.Entry{entry}}
	told(t, "Propose of 5", next, out, e, want, toAll(r, m), api.OK)
	if place != 3 {
		t.Error("place", place)
	}
	r = made(0, 1, 6, api.IsNormal, entries(3, 9))
	r.Acked[0] = 0
	next, out, place, e = Propose(r, 4, "")
	want = with(r, func(r *api.Replica) {
		r.Log, r.Acked[0], r.Commit = append(r.Log, api.Entry{Time: 10}), 3, 3
	})
	told(t, "Propose of 1", next, out, e, want, nil, api.OK)
	if place != 3 {
		t.Error("place", place)
	}
	r = made(0, 3, 0, api.IsNormal, long(999))
	next, out, place, e = Propose(r, 0, "x")
	entry = api.Entry{Time: 9991, Data: "x"}
	want = with(r, func(r *api.Replica) { r.Log, r.Acked[0] = append(r.Log, entry), 1000 })
	told(t, "the last entry", next, out, e, want, toAll(r, api.Message{Kind: api.MsgPrepare, Index: 1000, Log: []api.Entry{entry}}), api.OK)
	if place != 1000 {
		t.Error("place", place)
	}
}

func TestSuspect(t *testing.T) {
	for how := api.IsNormal; how <= api.IsAsking; how++ {
		for _, view := range []int{4, latest - 1} {
			r := made(1, 3, view, how, entries(3, 9))
			r.Commit, r.Acked, r.Votes, r.Voters, r.Best, r.BestView, r.BestDone = 1, []int{2, 1, 0}, []int{0, 2}, []int{2}, entries(4), 2, 1
			next, out, e := Suspect(r)
			want := with(r, func(r *api.Replica) {
				r.View, r.How, r.Votes, r.Voters, r.Best, r.BestView, r.BestDone = view+1, api.IsChanging, []int{1}, nil, nil, -1, 0
			})
			told(t, "Suspect", next, out, e, want, []api.Message{{Kind: api.MsgChange, From: 1, To: 0, View: view + 1}, {Kind: api.MsgChange, From: 1, To: 2, View: view + 1}}, api.OK)
		}
		for n := 1; n <= 5; n += 2 {
			r := made(0, n, latest, how, entries(3, 9))
			next, out, e := Suspect(r)
			told(t, "Suspect of the last view", next, out, e, r, nil, api.ErrFull)
		}
		r := made(0, 1, latest-1, how, entries(3, 9))
		r.Commit, r.Acked, r.Votes, r.Voters, r.Best, r.BestView, r.BestDone = 1, []int{0}, []int{0}, []int{0}, entries(4), 2, 1
		next, out, e := Suspect(r)
		want := api.Replica{N: 1, View: latest, Normal: latest, Log: entries(3, 9), Commit: 2, Acked: []int{2}, BestView: -1}
		told(t, "Suspect of one", next, out, e, want, nil, api.OK)
	}
	r := made(3, 5, 0, api.IsNormal, nil)
	next, out, e := Suspect(r)
	want := api.Replica{ID: 3, N: 5, View: 1, How: api.IsChanging, Acked: make([]int, 5), Votes: []int{3}, BestView: -1}
	told(t, "Suspect of 5", next, out, e, want, toAll(r, api.Message{Kind: api.MsgChange, View: 1}), api.OK)
}

func TestRestart(t *testing.T) {
	for how := api.IsNormal; how <= api.IsAsking; how++ {
		for _, c := range []struct{ id, n int }{{0, 1}, {0, 3}, {1, 3}, {4, 5}} {
			r := made(c.id, c.n, 4, how, entries(3, 9))
			r.Commit, r.Votes, r.Voters, r.Best, r.BestView, r.BestDone = 1, []int{0}, []int{0}, entries(4), 2, 1
			for i := range r.Acked {
				r.Acked[i] = 1
			}
			next, e := Restart(r)
			want := with(r, func(r *api.Replica) {
				r.Acked, r.Votes, r.Voters, r.Best, r.BestView, r.BestDone = make([]int, c.n), nil, nil, nil, -1, 0
				r.Acked[c.id] = 2
				if how == api.IsChanging {
					r.Votes = []int{c.id}
				}
			})
			told(t, fmt.Sprint("Restart ", c, how), next, nil, e, want, nil, api.OK)
			again, e := Restart(next)
			told(t, fmt.Sprint("Restart again ", c, how), again, nil, e, want, nil, api.OK)
		}
	}
}
