package group

import (
	"fmt"
	"math"
	"slices"
	"strings"
	"testing"

	"falsework/api"
	"falsework/replica"
)

const (
	lowest  = math.MinInt
	highest = math.MaxInt
	latest  = 1<<40 - 1
)

func TestDocumentExample(t *testing.T) {
	g, e := New(3)
	if e != api.OK {
		t.Fatal("New(3)", e)
	}
	place, e := g.Propose(0, 5, "x")
	if place != 1 || e != api.OK || g.Under() != 2 {
		t.Error("Propose(0, 5, \"x\"):", place, e, "under way", g.Under())
	}
	entry := []api.Entry{{Time: 5, Data: "x"}}
	want := []api.Message{
		{Kind: api.MsgPrepare, From: 0, To: 1, Index: 1, Log: entry},
		{Kind: api.MsgPrepare, From: 0, To: 2, Index: 1, Log: entry},
	}
	if text(g.net) != text(want) {
		t.Errorf("under way: %+v", g.net)
	}
	r, _ := g.Replica(0)
	if text(r) != text(api.Replica{N: 3, Log: entry, Acked: []int{1, 0, 0}, BestView: -1}) {
		t.Errorf("replica 0: %+v", r)
	}
}

func TestNew(t *testing.T) {
	for _, n := range []int{lowest, -5, -3, -2, -1, 0, 1, 2, 3, 4, 5, 6, 7, 9, 400, 1<<32 + 3, highest - 1, highest} {
		g, e := New(n)
		p, want := newByWords(n)
		if int(e) != want || (g == nil) != (p == nil) {
			t.Errorf("New(%d): %v, error %d, not %d", n, g, e, want)
			continue
		}
		if g != nil {
			(&both{t, fmt.Sprint("of ", n), g, p}).same("New")
		}
	}
}

// Two groups have nothing in common.
func TestNewTwice(t *testing.T) {
	a, b := begin(t, "one", 3), begin(t, "another", 3)
	a.propose(0, 5, "x")
	a.crash(1)
	a.deliver(1)
	b.same("what befell the other")
	b.suspect(2)
	a.same("what befell the other")
}

func TestReplicaPlaces(t *testing.T) {
	for _, n := range []int{1, 3, 5} {
		b := begin(t, fmt.Sprint("of ", n), n)
		b.crash(n - 1)
		for _, i := range []int{lowest, lowest + 1, -n - 1, -n, -1, 0, 1, 2, 3, 4, n - 1, n, n + 1, 1 << 32, highest} {
			r, e := b.g.Replica(i)
			if i < 0 || i >= n {
				if e != 20 || text(r) != text(api.Replica{}) || b.g.Runs(i) {
					t.Errorf("of %d: Replica(%d): %+v, error %d; runs: %v", n, i, r, e, b.g.Runs(i))
				}
				continue
			}
			if e != 0 || r.ID != i || r.N != n || b.g.Runs(i) != (i < n-1) {
				t.Errorf("of %d: Replica(%d): %+v, error %d; runs: %v", n, i, r, e, b.g.Runs(i))
			}
		}
		b.same("Replica")
	}
}

// full makes a group of five in which replica 1 has something in each of its lists.
func full(t *testing.T) *both {
	t.Helper()
	b := begin(t, "full lists", 5)
	b.propose(0, 5, "x")
	b.propose(0, 6, "y")
	b.all()
	b.propose(0, 7, "z")
	b.suspect(2)
	b.suspect(3)
	for b.g.Under() > 0 {
		if r, _ := b.g.Replica(1); len(r.Voters) == 2 {
			break
		}
		b.deliver(0)
	}
	r, _ := b.g.Replica(1)
	if len(r.Log) == 0 || len(r.Best) == 0 || len(r.Votes) < 2 || len(r.Voters) != 2 || len(r.Acked) != 5 || r.How != api.IsChanging {
		t.Fatalf("replica 1 lacks something: %+v", r)
	}
	return b
}

// spoil writes into all the room of r's lists.
func spoil(r api.Replica) {
	for _, l := range [][]int{r.Acked, r.Votes, r.Voters} {
		l = l[:cap(l)]
		for i := range l {
			l[i] = -999
		}
	}
	for _, l := range [][]api.Entry{r.Log, r.Best} {
		spoilLog(l)
	}
}

func spoilLog(l []api.Entry) {
	l = l[:cap(l)]
	for i := range l {
		l[i] = api.Entry{Time: -999, Data: "spoilt"}
	}
}

func TestReplicaIsACopy(t *testing.T) {
	b := full(t)
	for _, down := range []bool{false, true} {
		if down {
			b.crash(1)
			b.crash(0)
		}
		for i := range 5 {
			r, _ := b.g.Replica(i)
			again, _ := b.g.Replica(i)
			was := text(again)
			spoil(r)
			b.same(fmt.Sprint("writing into what Replica told of ", i))
			if text(again) != was {
				t.Errorf("two answers of Replica(%d) have memory in common", i)
			}
			_ = append(again.Log, api.Entry{Time: 1})
			_ = append(again.Acked, 77)
			b.same("appending to it")
		}
	}
	b.all()
	b.start(1)
	b.suspect(1)
	b.all()
}

// What one list of an answer has, no other list of it has.
func TestReplicaListsApart(t *testing.T) {
	b := full(t)
	r, _ := b.g.Replica(1)
	was := replicaOf(r)
	spoilLog(r.Best)
	if !slices.Equal(r.Log, was.Log) {
		t.Error("Best and Log have memory in common")
	}
	for i := range r.Votes {
		r.Votes[i] = -1
	}
	for i := range r.Acked {
		r.Acked[i] = -2
	}
	if !slices.Equal(r.Voters, was.Voters) {
		t.Error("numbers have memory in common")
	}
}

// Runs and Under behind each other call.
func TestRunsAndUnder(t *testing.T) {
	g, _ := New(3)
	for i, x := range []struct {
		call  string
		do    func() api.Errno
		e     int
		under int
		runs  [3]bool
	}{
		{"Propose", func() api.Errno { _, e := g.Propose(0, 1, "a"); return e }, 0, 2, [3]bool{true, true, true}},
		{"Propose at none", func() api.Errno { _, e := g.Propose(3, 1, "a"); return e }, 20, 2, [3]bool{true, true, true}},
		{"Replica", func() api.Errno { _, e := g.Replica(0); return e }, 0, 2, [3]bool{true, true, true}},
		{"Double", func() api.Errno { return g.Double(0) }, 0, 3, [3]bool{true, true, true}},
		{"Double of none", func() api.Errno { return g.Double(3) }, 20, 3, [3]bool{true, true, true}},
		{"Drop", func() api.Errno { return g.Drop(0) }, 0, 2, [3]bool{true, true, true}},
		{"Drop of none", func() api.Errno { return g.Drop(2) }, 20, 2, [3]bool{true, true, true}},
		{"Crash", func() api.Errno { return g.Crash(2) }, 0, 2, [3]bool{true, true, false}},
		{"Crash again", func() api.Errno { return g.Crash(2) }, 19, 2, [3]bool{true, true, false}},
		{"Deliver to one that is down", func() api.Errno { return g.Deliver(0) }, 0, 1, [3]bool{true, true, false}},
		{"Deliver", func() api.Errno { return g.Deliver(0) }, 0, 1, [3]bool{true, true, false}},
		{"Deliver to the primary", func() api.Errno { return g.Deliver(0) }, 0, 2, [3]bool{true, true, false}},
		{"Deliver of none", func() api.Errno { return g.Deliver(2) }, 20, 2, [3]bool{true, true, false}},
		{"Copy", func() api.Errno { g = g.Copy(); return 0 }, 0, 2, [3]bool{true, true, false}},
		{"Start", func() api.Errno { return g.Start(2) }, 0, 2, [3]bool{true, true, true}},
		{"Start again", func() api.Errno { return g.Start(2) }, 12, 2, [3]bool{true, true, true}},
		{"Suspect", func() api.Errno { return g.Suspect(1) }, 0, 4, [3]bool{true, true, true}},
		{"Suspect of none", func() api.Errno { return g.Suspect(-1) }, 20, 4, [3]bool{true, true, true}},
	} {
		if e := x.do(); int(e) != x.e {
			t.Errorf("case %d, %s: error %d, not %d", i, x.call, e, x.e)
		}
		if g.Under() != x.under {
			t.Errorf("case %d, %s: %d under way, not %d", i, x.call, g.Under(), x.under)
		}
		for id, want := range x.runs {
			if g.Runs(id) != want {
				t.Errorf("case %d, %s: %d runs: %v", i, x.call, id, g.Runs(id))
			}
		}
		if g.Runs(3) || g.Runs(-1) || g.Runs(lowest) || g.Runs(highest) {
			t.Errorf("case %d, %s: one that there is not runs", i, x.call)
		}
	}
}

// Which error counts, where several do.
func TestErrorsOfReplicas(t *testing.T) {
	tooLong := strings.Repeat("d", 20001)
	justRight := strings.Repeat("d", 20000)
	b := begin(t, "errors", 3)
	b.propose(0, 1, "ahead")
	b.crash(2)
	for _, i := range []int{lowest, -3, -1, 3, 4, 5, 1 << 32, highest} {
		if b.suspect(i) != 20 || b.crash(i) != 20 || b.start(i) != 20 || b.propose(i, 1, "") != 20 || b.propose(i, -1, tooLong) != 20 {
			t.Errorf("there is a replica %d", i)
		}
	}
	if b.suspect(2) != 19 || b.crash(2) != 19 || b.propose(2, 1, "") != 19 || b.propose(2, -1, tooLong) != 19 {
		t.Error("one that is down")
	}
	if b.start(0) != 12 || b.start(1) != 12 {
		t.Error("one that runs is started")
	}
	for _, at := range []int{lowest, -1, latest + 1, highest} {
		if b.propose(0, at, "") != 1 || b.propose(1, at, "") != 1 {
			t.Errorf("a time of %d", at)
		}
	}
	if b.propose(0, 1, tooLong) != 1 || b.propose(1, 1, tooLong) != 1 || b.propose(0, -1, tooLong) != 1 {
		t.Error("data that is too long")
	}
	if b.propose(1, 1, justRight) != 17 || b.propose(1, latest, "") != 17 {
		t.Error("one that is not the primary")
	}
	if b.propose(0, 0, justRight) != 0 || b.propose(0, latest, "") != 0 {
		t.Error("what may be")
	}
	if b.propose(0, 0, "") != 4 || b.propose(0, latest, "") != 4 || b.propose(0, latest+1, "") != 1 || b.propose(1, 0, "") != 17 {
		t.Error("behind the last time")
	}
	if b.suspect(0) != 0 || b.propose(0, 0, "") != 17 {
		t.Error("one that is changing")
	}
	if b.crash(0) != 0 || b.propose(0, 0, "") != 19 || b.start(0) != 0 || b.propose(0, 0, "") != 17 || b.start(2) != 0 || b.start(2) != 12 {
		t.Error("Crash, Start")
	}
	b.all()
}

// A log of 1000 entries takes no more.
func TestFullLog(t *testing.T) {
	g, _ := New(1)
	for k := range 1000 {
		if place, e := g.Propose(0, 0, "d"); place != k+1 || e != api.OK {
			t.Fatal("place", place, e)
		}
	}
	for range 2 {
		if place, e := g.Propose(0, 5, "d"); place != 0 || e != 4 {
			t.Error("behind 1000 entries:", place, e)
		}
	}
	if _, e := g.Propose(0, -1, "d"); e != 1 {
		t.Error("a wrong time, behind 1000 entries", e)
	}
	r, e := g.Replica(0)
	if e != api.OK || len(r.Log) != 1000 || r.Commit != 1000 || r.Log[999].Time != 1000 || g.Under() != 0 {
		t.Error("1000 entries:", len(r.Log), r.Commit, e)
	}
}

// Suspect tells layer 11's error, behind the last view.
func TestSuspectBehindTheLastView(t *testing.T) {
	for _, n := range []int{1, 3} {
		b := begin(t, "the last view", n)
		b.g.members[0].replica.View, b.g.members[0].replica.Normal = latest-1, latest-1
		b.p.all[0].View, b.p.all[0].Normal = latest-1, latest-1
		if b.suspect(0) != 0 || b.suspect(0) != 4 || b.crash(0) != 0 || b.suspect(0) != 19 || b.start(0) != 0 || b.suspect(0) != 4 {
			t.Errorf("of %d: %+v", n, b.p.all[0])
		}
		if len(b.p.net) != n-1 {
			t.Errorf("of %d: %d under way", n, len(b.p.net))
		}
	}
}

// order tells of each message its kind, From and To.
func order(l []api.Message) string {
	s := ""
	for _, m := range l {
		s += fmt.Sprintf("%d:%d>%d ", m.Kind, m.From, m.To)
	}
	return strings.TrimSpace(s)
}

// Messages go under way behind those that are there.
func TestMessagesGoBehind(t *testing.T) {
	b := begin(t, "order", 5)
	for _, x := range []struct {
		do   func() int
		want string
	}{
		{func() int { return b.propose(0, 1, "a") }, "1:0>1 1:0>2 1:0>3 1:0>4"},
		{func() int { return b.suspect(2) }, "1:0>1 1:0>2 1:0>3 1:0>4 4:2>0 4:2>1 4:2>3 4:2>4"},
		{func() int { return b.deliver(2) }, "1:0>1 1:0>2 1:0>4 4:2>0 4:2>1 4:2>3 4:2>4 2:3>0"},
		{func() int { return b.deliver(4) }, "1:0>1 1:0>2 1:0>4 4:2>0 4:2>3 4:2>4 2:3>0 4:1>0 4:1>2 4:1>3 4:1>4"},
		{func() int { return b.double(6) }, "1:0>1 1:0>2 1:0>4 4:2>0 4:2>3 4:2>4 2:3>0 4:1>0 4:1>2 4:1>3 4:1>4 2:3>0"},
		{func() int { return b.drop(0) }, "1:0>2 1:0>4 4:2>0 4:2>3 4:2>4 2:3>0 4:1>0 4:1>2 4:1>3 4:1>4 2:3>0"},
		{func() int { return b.drop(10) }, "1:0>2 1:0>4 4:2>0 4:2>3 4:2>4 2:3>0 4:1>0 4:1>2 4:1>3 4:1>4"},
		{func() int { return b.drop(3) }, "1:0>2 1:0>4 4:2>0 4:2>4 2:3>0 4:1>0 4:1>2 4:1>3 4:1>4"},
		{func() int { return b.crash(4) }, "1:0>2 1:0>4 4:2>0 4:2>4 2:3>0 4:1>0 4:1>2 4:1>3 4:1>4"},
		{func() int { return b.deliver(3) }, "1:0>2 1:0>4 4:2>0 2:3>0 4:1>0 4:1>2 4:1>3 4:1>4"},
		{func() int { return b.deliver(7) }, "1:0>2 1:0>4 4:2>0 2:3>0 4:1>0 4:1>2 4:1>3"},
		{func() int { return b.crash(1) }, "1:0>2 1:0>4 4:2>0 2:3>0 4:1>0 4:1>2 4:1>3"},
		{func() int { return b.start(4) }, "1:0>2 1:0>4 4:2>0 2:3>0 4:1>0 4:1>2 4:1>3"},
		{func() int { return b.deliver(1) }, "1:0>2 4:2>0 2:3>0 4:1>0 4:1>2 4:1>3 2:4>0"},
		{func() int { return b.double(0) }, "1:0>2 4:2>0 2:3>0 4:1>0 4:1>2 4:1>3 2:4>0 1:0>2"},
	} {
		if e := x.do(); e != 0 || order(b.g.net) != x.want {
			t.Fatalf("error %d\ngot  %s\nwant %s", e, order(b.g.net), x.want)
		}
	}
}

func TestPlacesOfMessages(t *testing.T) {
	b := begin(t, "places", 3)
	for _, k := range []int{lowest, -1, 0, 1, highest} {
		if b.deliver(k) != 20 || b.drop(k) != 20 || b.double(k) != 20 {
			t.Errorf("nothing is under way, but at %d", k)
		}
	}
	b.propose(0, 1, "a")
	b.propose(0, 2, "b")
	for _, k := range []int{lowest, lowest + 4, -5, -4, -1, 4, 5, 1 << 32, highest} {
		if b.deliver(k) != 20 || b.drop(k) != 20 || b.double(k) != 20 {
			t.Errorf("four are under way, and one at %d", k)
		}
	}
	for _, k := range []int{0, 1, 2, 3} {
		for _, do := range []func(*both) int{
			func(c *both) int { return c.deliver(k) },
			func(c *both) int { return c.drop(k) },
			func(c *both) int { return c.double(k) },
		} {
			if e := do(b.copy()); e != 0 {
				t.Errorf("at %d: error %d", k, e)
			}
		}
	}
	b.same("what befell its copies")
}

// fill lets k messages be under way, each with an entry of its own.
func fill(b *both, k int) {
	b.t.Helper()
	for b.g.Under()+b.p.all[0].N-1 <= k {
		b.propose(0, 0, fmt.Sprint("entry ", b.g.Under()))
	}
	for b.g.Under() < k {
		b.double(1)
	}
}

func TestMostUnderWay(t *testing.T) {
	for _, n := range []int{3, 5} {
		for _, k := range []int{395, 396, 397, 398, 399, 400} {
			b := begin(t, fmt.Sprintf("%d of %d under way", k, n), n)
			fill(b, k)
			if b.g.Under() != k {
				t.Fatal(b.name, b.g.Under())
			}
			room := 400 - k
			for _, x := range []struct {
				do   func(*both) int
				want int
			}{
				{func(c *both) int { return c.double(0) }, min(room, 1)},
				{func(c *both) int { return c.double(k - 1) }, min(room, 1)},
				{func(c *both) int { return c.double(k) }, 0},
				{func(c *both) int { return c.propose(0, 0, "more") }, min(room, n-1)},
				{func(c *both) int { return c.suspect(1) }, min(room, n-1)},
				{func(c *both) int { return c.deliver(0) }, 0},
				{func(c *both) int { return c.drop(0) }, -1},
				{func(c *both) int { c.crash(1); return c.deliver(0) }, -1},
				{func(c *both) int { c.suspect(1); return c.deliver(0) }, min(room, n-1) - 1},
				{func(c *both) int { c.crash(2); return c.start(2) }, 0},
			} {
				c := b.copy()
				x.do(c)
				if c.g.Under() != k+x.want {
					t.Errorf("%s: then %d", b.name, c.g.Under())
				}
			}
			b.same("what befell its copies")
		}
	}
}

// The place at which a message came from counts as room: what it leads to goes under way as far as there is room then.
func TestDeliverWhereAllAreUnderWay(t *testing.T) {
	b := begin(t, "all under way", 5)
	b.suspect(2)
	fill(b, 400)
	if b.g.Under() != 400 || b.deliver(0) != 0 || b.g.Under() != 400 {
		t.Fatal(b.g.Under())
	}
	last := b.g.net[399]
	if last.Kind != api.MsgChange || last.From != 0 || last.To != 1 {
		t.Errorf("the first of four: %+v", last)
	}
	for range 30 {
		b.deliver(0)
		b.propose(0, 0, "lost")
		b.suspect(3)
	}
}

// To all of 400 messages, each with a long log, one more is lost, and nothing else.
func TestDoubleWhereAllAreUnderWay(t *testing.T) {
	b := begin(t, "Double", 3)
	fill(b, 400)
	for _, k := range []int{0, 1, 200, 399} {
		if b.double(k) != 0 || b.g.Under() != 400 {
			t.Error("Double", k, b.g.Under())
		}
	}
	if b.double(400) != 20 || b.drop(400) != 20 || b.deliver(400) != 20 || b.drop(399) != 0 || b.drop(399) != 20 || b.double(5) != 0 || b.g.Under() != 400 {
		t.Error("at the end", b.g.Under())
	}
	if text(b.g.net[399]) != text(b.g.net[5]) {
		t.Errorf("the last one is %+v", b.g.net[399])
	}
}

// asking makes a group of three in which replica 2 asks for the log of view 1.
func asking(t *testing.T) *both {
	t.Helper()
	b := begin(t, "one asks", 3)
	b.propose(0, 5, "x")
	b.all()
	b.crash(2)
	b.suspect(1)
	b.all()
	b.start(2)
	b.propose(1, 9, "y")
	b.deliver(1)
	if r, _ := b.g.Replica(2); r.How != api.IsAsking || r.View != 1 || r.Normal != 0 {
		t.Fatalf("it does not ask: %+v", r)
	}
	return b
}

// crashAndStart looks at replica i behind each of both, and tells how it was.
func crashAndStart(b *both, i int) int {
	b.t.Helper()
	was, _ := b.g.Replica(i)
	under := text(b.g.net)
	if b.crash(i) != 0 || b.g.Runs(i) {
		b.t.Fatalf("Crash(%d): it runs", i)
	}
	if r, e := b.g.Replica(i); e != api.OK || text(r) != text(was) {
		b.t.Errorf("Crash(%d): %+v was %+v", i, r, was)
	}
	want, e := replica.Restart(was)
	if e != api.OK || b.start(i) != 0 || !b.g.Runs(i) {
		b.t.Fatalf("Start(%d): it does not run", i)
	}
	if r, e := b.g.Replica(i); e != api.OK || text(r) != text(want) {
		b.t.Errorf("Start(%d): %+v is not %+v", i, r, want)
	}
	if text(b.g.net) != under {
		b.t.Errorf("Crash and Start of %d turn what is under way", i)
	}
	return was.How
}

// What a replica is behind Crash and Start, from each How.
func TestCrashAndStart(t *testing.T) {
	hows := map[int]int{}
	for _, b := range []*both{full(t), asking(t), begin(t, "alone", 1)} {
		for range 40 {
			for i := range b.p.all {
				hows[crashAndStart(b.copy(), i)]++
			}
			if b.g.Under() == 0 {
				b.propose(0, 0, "late")
				b.propose(1, 0, "late")
			}
			b.deliver(0)
		}
	}
	for _, how := range []int{api.IsNormal, api.IsChanging, api.IsAsking} {
		if hows[how] < 3 {
			t.Errorf("How %d came %d times", how, hows[how])
		}
	}
}

// Literal replicas, behind Crash and Start.
func TestBehindStart(t *testing.T) {
	b := full(t)
	r, _ := b.g.Replica(1)
	b.crash(1)
	b.start(1)
	got, _ := b.g.Replica(1)
	want := api.Replica{ID: 1, N: 5, View: r.View, Normal: r.Normal, How: api.IsChanging, Log: r.Log, Commit: r.Commit, Acked: []int{0, len(r.Log), 0, 0, 0}, Votes: []int{1}, BestView: -1}
	if text(got) != text(want) {
		t.Errorf("changing: %+v", got)
	}
	a := asking(t)
	a.crash(2)
	a.start(2)
	got, _ = a.g.Replica(2)
	if text(got) != text(api.Replica{ID: 2, N: 3, View: 1, How: api.IsAsking, Log: []api.Entry{{Time: 5, Data: "x"}}, Commit: 1, Acked: []int{0, 0, 1}, BestView: -1}) {
		t.Errorf("asking: %+v", got)
	}
	a.all()
	c := begin(t, "the primary", 3)
	c.propose(0, 5, "x")
	c.deliver(0)
	c.deliver(1)
	c.crash(0)
	c.start(0)
	got, _ = c.g.Replica(0)
	if text(got) != text(api.Replica{N: 3, Log: []api.Entry{{Time: 5, Data: "x"}}, Commit: 1, Acked: []int{1, 0, 0}, BestView: -1}) {
		t.Errorf("normal: %+v", got)
	}
}

// A message to one that does not run is lost; one that waits until it runs is not; what a crashed one has sent comes.
func TestMessagesAndCrashes(t *testing.T) {
	b := begin(t, "crashes", 3)
	b.propose(0, 5, "x")
	b.crash(1)
	if b.deliver(0) != 0 || b.g.Under() != 1 {
		t.Error("it is not lost", b.g.Under())
	}
	b.start(1)
	if r, _ := b.g.Replica(1); len(r.Log) != 0 {
		t.Error("it came", r)
	}
	b.crash(2)
	b.start(2)
	b.crash(0)
	if b.deliver(0) != 0 || b.g.Under() != 1 {
		t.Error("of one that is down", b.g.Under())
	}
	if r, _ := b.g.Replica(2); len(r.Log) != 1 {
		t.Error("it did not come", r)
	}
	if b.deliver(0) != 0 || b.g.Under() != 0 {
		t.Error("to one that is down", b.g.Under())
	}
	if r, _ := b.g.Replica(0); r.Commit != 0 || len(r.Log) != 1 {
		t.Error("it took it", r)
	}
	if b.suspect(1) != 0 || b.g.Under() != 2 {
		t.Error("Suspect", b.g.Under())
	}
	b.all()
	if r, _ := b.g.Replica(1); r.View != 1 || r.How != api.IsNormal || len(r.Log) != 1 {
		t.Errorf("two of three: %+v", r)
	}
}

// wrongs tells messages that no replica sends.
func wrongs() []api.Message {
	entry := []api.Entry{{Time: 5, Data: "wrong"}}
	right := api.Message{Kind: api.MsgPrepare, From: 0, To: 1, Index: 1, Log: entry}
	var l []api.Message
	for _, turn := range []func(*api.Message){
		func(m *api.Message) { m.Kind = 0 },
		func(m *api.Message) { m.Kind = 9 },
		func(m *api.Message) { m.From = 1 },
		func(m *api.Message) { m.From = -1 },
		func(m *api.Message) { m.From = 3 },
		func(m *api.Message) { m.View = latest + 1 },
		func(m *api.Message) { m.View = -1 },
		func(m *api.Message) { m.Index = -1 },
		func(m *api.Message) { m.Commit = latest + 1 },
		func(m *api.Message) { m.Normal = -1 },
		func(m *api.Message) { m.Log = nil },
		func(m *api.Message) { m.Log = []api.Entry{{}} },
	} {
		m := right
		turn(&m)
		l = append(l, m)
	}
	return l
}

// Beside an error of Take the message is taken, and nothing else is done.
func TestDeliverWhatMayNotBe(t *testing.T) {
	for at, wrong := range wrongs() {
		for _, k := range []int{0, 1, 2} {
			b := begin(t, fmt.Sprintf("wrong message %d, at %d", at, k), 3)
			b.propose(0, 5, "x")
			b.g.net = slices.Insert(b.g.net, k, messageOf(wrong))
			rest := text(b.p.net)
			b.p.net = slices.Insert(b.p.net, k, messageOf(wrong))
			was, _ := b.g.Replica(1)
			if e := b.deliver(k); e != 1 || b.g.Under() != 2 || text(b.g.net) != rest {
				t.Errorf("%s: error %d, under way %+v", b.name, e, b.g.net)
			}
			if r, _ := b.g.Replica(1); text(r) != text(was) {
				t.Errorf("%s: it is %+v", b.name, r)
			}
			if b.deliver(0) != 0 || b.drop(0) != 0 {
				t.Errorf("%s: what is left", b.name)
			}
		}
	}
}

// One that does not run does not look at what comes to it; nor does Drop or Double.
func TestWhatMayNotBeUnseen(t *testing.T) {
	for at, wrong := range wrongs() {
		b := begin(t, fmt.Sprint("unseen message ", at), 3)
		b.g.net, b.p.net = []api.Message{messageOf(wrong)}, []api.Message{messageOf(wrong)}
		b.crash(1)
		if b.double(0) != 0 || b.drop(0) != 0 || b.deliver(0) != 0 || b.g.Under() != 0 {
			t.Errorf("%s: %d under way", b.name, b.g.Under())
		}
	}
}

// A message to nobody is lost.
func TestDeliverToNobody(t *testing.T) {
	for _, to := range []int{lowest, -1, 3, highest} {
		b := begin(t, fmt.Sprint("to ", to), 3)
		m := api.Message{Kind: api.MsgCommit, To: to}
		b.g.net, b.p.net = []api.Message{m}, []api.Message{m}
		if b.deliver(0) != 0 || b.g.Under() != 0 {
			t.Errorf("%s: %d under way", b.name, b.g.Under())
		}
	}
}

// spoilAll writes into all that a group holds.
func spoilAll(g *Group) {
	for i := range g.members {
		spoil(g.members[i].replica)
		g.members[i] = member{}
	}
	for i := range g.net {
		spoilLog(g.net[i].Log)
	}
	net := g.net[:cap(g.net)]
	for i := range net {
		net[i] = api.Message{Kind: -999}
	}
}

func TestCopyHasNothingInCommon(t *testing.T) {
	for _, ofCopy := range []bool{false, true} {
		b := full(t)
		b.crash(4)
		c := b.copy()
		if ofCopy {
			spoilAll(c.g)
			b.same("writing into a copy")
			b.all()
			continue
		}
		spoilAll(b.g)
		c.same("writing into what it was made of")
		c.all()
	}
}

func TestCopyOfEach(t *testing.T) {
	for _, n := range []int{1, 3, 5} {
		b := begin(t, fmt.Sprint("of ", n), n)
		fresh := b.copy()
		b.propose(0, 5, "x")
		proposed := b.copy()
		b.crash(0)
		down := b.copy()
		b.all()
		b.start(0)
		again := b.copy().copy()
		b.suspect(0)
		b.all()
		fresh.same("what befell later")
		proposed.same("what befell later")
		down.same("what befell later")
		again.same("what befell later")
		if down.propose(0, 1, "") != 19 || fresh.propose(0, 1, "y") != 0 || proposed.propose(0, 1, "z") != 0 || again.crash(0) != 0 {
			t.Error("copies", n)
		}
		proposed.all()
		b.same("what befell its copies")
	}
}

func TestNil(t *testing.T) {
	var g *Group
	for _, i := range []int{lowest, -1, 0, 1, 3, highest} {
		if r, e := g.Replica(i); e != 20 || text(r) != text(api.Replica{}) {
			t.Error("Replica", i, r, e)
		}
		if g.Runs(i) {
			t.Error("Runs", i)
		}
		if place, e := g.Propose(i, -1, "x"); place != 0 || e != 20 {
			t.Error("Propose", i, place, e)
		}
		for at, e := range []api.Errno{g.Suspect(i), g.Crash(i), g.Start(i), g.Deliver(i), g.Drop(i), g.Double(i)} {
			if e != 20 {
				t.Error("call", at, i, e)
			}
		}
	}
	if g.Under() != 0 || g.Copy() != nil {
		t.Error("Under, Copy", g.Under(), g.Copy())
	}
}

// A group that was not made by New has no replicas, and nothing under way.
func TestZeroGroup(t *testing.T) {
	g := &Group{}
	for _, h := range []*Group{g, g.Copy()} {
		if r, e := h.Replica(0); e != 20 || text(r) != text(api.Replica{}) || h.Runs(0) || h.Under() != 0 {
			t.Error("it has something", r, e)
		}
		if place, e := h.Propose(0, 1, ""); place != 0 || e != 20 {
			t.Error("Propose", place, e)
		}
		for at, e := range []api.Errno{h.Suspect(0), h.Crash(0), h.Start(0), h.Deliver(0), h.Drop(0), h.Double(0)} {
			if e != 20 {
				t.Error("call", at, e)
			}
		}
	}
}

// The same calls tell the same.
func TestSameAgain(t *testing.T) {
	told := func() string {
		g, _ := New(5)
		s := ""
		for k := range 300 {
			i := k * 7 % 5
			place, e := g.Propose(i, k, fmt.Sprint(k))
			s += fmt.Sprint(place, e)
			if k%11 == 0 {
				s += fmt.Sprint(g.Suspect(i))
			}
			if k%13 == 0 {
				s += fmt.Sprint(g.Crash(i), g.Start((i+3)%5))
			}
			s += fmt.Sprint(g.Deliver(k%4), g.Deliver(0), g.Double(k%9), g.Drop(k%5), g.Under())
		}
		for i := range 5 {
			r, _ := g.Replica(i)
			s += text(r)
		}
		return s
	}
	if told() != told() {
		t.Error("the same calls tell otherwise")
	}
}
