package replica

import (
	"fmt"
	"strings"
	"testing"

	"falsework/api"
)

// msg makes a message to replica 1.
func msg(kind, from, view int) api.Message {
	m := api.Message{Kind: kind, From: from, To: 1, View: view}
	if kind == api.MsgPrepare {
		m.Log = entries(5)
	}
	return m
}

// behind makes n entries, with Times from one on.
func behind(from, n int) []api.Entry {
	var l []api.Entry
	for i := range n {
		l = append(l, api.Entry{Time: from + i})
	}
	return l
}

func forgets(r *api.Replica) {
	r.Votes, r.Voters, r.Best, r.BestView, r.BestDone = nil, nil, nil, -1, 0
}

// isChanged makes r one that changes to a view, with these votes.
func isChanged(r *api.Replica, view int, votes ...int) {
	forgets(r)
	r.View, r.How, r.Votes = view, api.IsChanging, votes
}

// isNormal makes r one that is normal in a view, with a log.
func isNormal(r *api.Replica, view int, log []api.Entry, commit int) {
	forgets(r)
	r.View, r.Normal, r.How, r.Log, r.Commit = view, view, api.IsNormal, log, commit
	r.Acked = make([]int, r.N)
	r.Acked[r.ID] = len(log)
}

func TestTakeRefused(t *testing.T) {
	tooMuch := entries(5)
	tooMuch[0].Data = strings.Repeat("d", 20001)
	for kind := api.MsgPrepare; kind <= api.MsgLog; kind++ {
		for how := api.IsNormal; how <= api.IsAsking; how++ {
			r := made(1, 3, 3, how, entries(10, 20))
			turns := []func(m *api.Message, n int){
				func(m *api.Message, n int) { m.View = n },
				func(m *api.Message, n int) { m.Index = n },
				func(m *api.Message, n int) { m.Commit = n },
				func(m *api.Message, n int) { m.Normal = n },
			}
			for i, turn := range turns {
				for _, n := range []int{lowest, -1, api.MaxTime, highest} {
					m := msg(kind, 0, 3)
					turn(&m, n)
					refuses(t, fmt.Sprint("kind ", kind, " part ", i, " ", n), r, m)
				}
				for _, n := range []int{0, latest} {
					m := msg(kind, 0, 3)
					turn(&m, n)
					if _, _, e := Take(r, m); e != api.OK {
						t.Errorf("kind %d, part %d: %d: error %d", kind, i, n, e)
					}
				}
			}
			for _, from := range []int{lowest, -1, 1, 3, 4, highest} {
				refuses(t, fmt.Sprint("kind ", kind, " from ", from), r, msg(kind, from, 3))
			}
			for _, to := range []int{lowest, -1, 0, 2, 3, highest} {
				m := msg(kind, 0, 3)
				m.To = to
				refuses(t, fmt.Sprint("kind ", kind, " to ", to), r, m)
			}
			for i, l := range [][]api.Entry{entries(0), entries(-1), entries(api.MaxTime), entries(5, 5), entries(6, 5), long(1001), tooMuch, entries(highest), entries(lowest)} {
				m := msg(kind, 0, 3)
				m.Log = l
				refuses(t, fmt.Sprint("kind ", kind, " log ", i), r, m)
			}
			for i, l := range [][]api.Entry{nil, {}, entries(5, 6), long(1000)} {
				m := msg(kind, 0, 3)
				m.Log = l
				if kind == api.MsgPrepare {
					refuses(t, fmt.Sprint("MsgPrepare, log ", i), r, m)
				} else if _, _, e := Take(r, m); e != api.OK {
					t.Errorf("kind %d, log %d: error %d", kind, i, e)
				}
			}
		}
	}
	one := made(0, 1, 3, api.IsNormal, nil)
	for _, kind := range []int{lowest, -1, 0, 9, 10, highest} {
		refuses(t, fmt.Sprint("kind ", kind), made(1, 3, 3, api.IsNormal, nil), msg(kind, 0, 3))
	}
	for kind := api.MsgPrepare; kind <= api.MsgLog; kind++ {
		for from := -1; from <= 1; from++ {
			refuses(t, fmt.Sprint("of one, kind ", kind), one, api.Message{Kind: kind, From: from, Log: entries(5)})
		}
	}
}

func TestChange(t *testing.T) {
	log := entries(10, 20)
	for how := api.IsNormal; how <= api.IsAsking; how++ {
		r := made(1, 3, 4, how, log)
		r.Commit, r.Voters, r.Best, r.BestView, r.BestDone = 1, []int{0}, entries(7), 2, 1
		name := fmt.Sprint("how ", how, ", view ")
		takes(t, name+"below", r, msg(api.MsgChange, 0, 3), nil)
		takes(t, name+"far below", r, msg(api.MsgChange, 2, 0), nil)
		// View 6 is 0's, so 1 sends its state there.
		state := api.Message{Kind: api.MsgState, From: 1, To: 0, View: 6, Normal: r.Normal, Commit: 1, Log: log}
		out := append(toAll(r, api.Message{Kind: api.MsgChange, View: 6}), state)
		takes(t, name+"above", r, msg(api.MsgChange, 2, 6), func(r *api.Replica) { isChanged(r, 6, 1, 2) }, out...)
		// View 7 is 1's own: it takes its state itself, as the first of Voters.
		takes(t, name+"above, its own", r, msg(api.MsgChange, 0, 7), func(r *api.Replica) {
			normal := r.Normal
			isChanged(r, 7, 0, 1)
			r.Voters, r.Best, r.BestView, r.BestDone = []int{1}, log, normal, 1
		}, toAll(r, api.Message{Kind: api.MsgChange, View: 7})...)
		if how != api.IsChanging {
			takes(t, name+"the same", r, msg(api.MsgChange, 0, 4), nil)
		}
	}
	last := made(1, 3, 3, api.IsNormal, nil)
	if primary := latest % 3; primary != 0 {
		t.Fatal("the last view is", primary)
	}
	takes(t, "the last view", last, msg(api.MsgChange, 2, latest), func(r *api.Replica) { isChanged(r, latest, 1, 2) },
		append(toAll(last, api.Message{Kind: api.MsgChange, View: latest}), api.Message{Kind: api.MsgState, From: 1, To: 0, View: latest, Normal: 3})...)
}

func TestChangeVotes(t *testing.T) {
	log := entries(10, 20)
	r := made(1, 5, 8, api.IsChanging, log)
	r.Commit = 2
	state := api.Message{Kind: api.MsgState, From: 1, To: 3, View: 8, Normal: 7, Commit: 2, Log: log}
	r = takes(t, "one more", r, msg(api.MsgChange, 3, 8), func(r *api.Replica) { r.Votes = []int{1, 3} })
	r = takes(t, "twice", r, msg(api.MsgChange, 3, 8), nil)
	r = takes(t, "just most", r, msg(api.MsgChange, 0, 8), func(r *api.Replica) { r.Votes = []int{0, 1, 3} }, state)
	r = takes(t, "twice behind it", r, msg(api.MsgChange, 0, 8), nil)
	r = takes(t, "one more than most", r, msg(api.MsgChange, 2, 8), func(r *api.Replica) { r.Votes = []int{0, 1, 2, 3} })
	r = takes(t, "all", r, msg(api.MsgChange, 4, 8), func(r *api.Replica) { r.Votes = []int{0, 1, 2, 3, 4} })
	takes(t, "above behind it", r, msg(api.MsgChange, 4, 9), func(r *api.Replica) { isChanged(r, 9, 1, 4) }, toAll(r, api.Message{Kind: api.MsgChange, View: 9})...)

	three := made(1, 3, 5, api.IsChanging, log)
	three = takes(t, "just most of 3", three, msg(api.MsgChange, 0, 5), func(r *api.Replica) { r.Votes = []int{0, 1} },
		api.Message{Kind: api.MsgState, From: 1, To: 2, View: 5, Normal: 4, Log: log})
	takes(t, "all of 3", three, msg(api.MsgChange, 2, 5), func(r *api.Replica) { r.Votes = []int{0, 1, 2} })

	p := made(1, 5, 6, api.IsChanging, log)
	p.Commit = 1
	p = takes(t, "as the primary, one more", p, msg(api.MsgChange, 4, 6), func(r *api.Replica) { r.Votes = []int{1, 4} })
	first := p
	p = takes(t, "as the primary, just most", p, msg(api.MsgChange, 0, 6), func(r *api.Replica) {
		r.Votes, r.Voters, r.Best, r.BestView, r.BestDone = []int{0, 1, 4}, []int{1}, log, 5, 1
	})
	takes(t, "as the primary, one more than most", p, msg(api.MsgChange, 2, 6), func(r *api.Replica) { r.Votes = []int{0, 1, 2, 4} })
	// Its own state is the last that was lacking: all are told at once.
	better := entries(10, 20, 30)
	sent := with(first, func(r *api.Replica) { r.Voters, r.Best, r.BestView, r.BestDone = []int{2, 3}, better, 5, 2 })
	takes(t, "its own state makes it most", sent, msg(api.MsgChange, 0, 6), func(r *api.Replica) { isNormal(r, 6, better, 2) },
		toAll(sent, api.Message{Kind: api.MsgView, View: 6, Commit: 2, Log: better})...)
	mine := with(first, func(r *api.Replica) { r.Voters, r.Best, r.BestView, r.BestDone = []int{2, 3}, better, 4, 0 })
	takes(t, "its own state is the best", mine, msg(api.MsgChange, 0, 6), func(r *api.Replica) { isNormal(r, 6, log, 1) },
		toAll(mine, api.Message{Kind: api.MsgView, View: 6, Commit: 1, Log: log})...)
	had := with(first, func(r *api.Replica) { r.Voters, r.Best, r.BestView = []int{1, 2}, better, 4 })
	takes(t, "its own state was there", had, msg(api.MsgChange, 0, 6), func(r *api.Replica) { r.Votes = []int{0, 1, 4} })
}

func TestState(t *testing.T) {
	log := entries(10, 20)
	for how := api.IsNormal; how <= api.IsAsking; how++ {
		r := made(1, 3, 4, how, log)
		r.Commit, r.Best, r.BestView, r.BestDone = 1, entries(7), 2, 1
		name := fmt.Sprint("how ", how, ", view ")
		m := msg(api.MsgState, 2, 1)
		m.Normal, m.Commit, m.Log = 1, 1, entries(5)
		takes(t, name+"below", r, m, nil)
		for _, view := range []int{3, 5, 6, 8} {
			m.View = view
			takes(t, name+"another one's", r, m, nil)
		}
		m.View = 7
		takes(t, name+"above", r, m, func(r *api.Replica) {
			isChanged(r, 7, 1)
			r.Voters, r.Best, r.BestView, r.BestDone = []int{2}, entries(5), 1, 1
		}, toAll(r, api.Message{Kind: api.MsgChange, View: 7})...)
		m.View = 4
		if how != api.IsChanging {
			takes(t, name+"the same", r, m, nil)
		}
	}
	notIt := made(1, 3, 5, api.IsChanging, log)
	takes(t, "the same, not the primary", notIt, msg(api.MsgState, 2, 5), nil)
}

func TestStateBest(t *testing.T) {
	base := made(1, 5, 6, api.IsChanging, entries(10))
	base.Votes, base.Voters, base.Best, base.BestView, base.BestDone = []int{1, 3}, []int{3}, entries(11, 12), 4, 1
	for _, c := range []struct {
		name           string
		normal, commit int
		log            []api.Entry
		best           []api.Entry
		view, done     int
	}{
		{"a Normal below, longer", 3, 0, entries(1, 2, 3), entries(11, 12), 4, 1},
		{"a Normal below, more done", 3, 2, entries(1, 2, 3), entries(11, 12), 4, 2},
		{"a Normal below, still more done", 3, 3, entries(1, 2, 3), entries(11, 12), 4, 2},
		{"the same Normal, longer", 4, 0, entries(1, 2, 3), entries(1, 2, 3), 4, 1},
		{"the same Normal, longer, more done", 4, 3, entries(1, 2, 3), entries(1, 2, 3), 4, 3},
		{"the same Normal, longer, all done and more", 4, latest, entries(1, 2, 3), entries(1, 2, 3), 4, 3},
		{"the same Normal, as long", 4, 1, entries(1, 2), entries(11, 12), 4, 1},
		{"the same Normal, shorter", 4, 0, entries(1), entries(11, 12), 4, 1},
		{"the same Normal, none", 4, 0, nil, entries(11, 12), 4, 1},
		{"a Normal above, shorter", 5, 0, entries(1), entries(1), 5, 1},
		{"a Normal above, as long", 5, 2, entries(1, 2), entries(1, 2), 5, 2},
		{"a Normal above, none", 5, 2, nil, nil, 5, 0},
		{"a Normal far above", latest, 0, entries(1, 2, 3), entries(1, 2, 3), latest, 1},
	} {
		m := msg(api.MsgState, 0, 6)
		m.Normal, m.Commit, m.Log = c.normal, c.commit, c.log
		takes(t, c.name, base, m, func(r *api.Replica) {
			r.Voters, r.Best, r.BestView, r.BestDone = []int{0, 3}, c.best, c.view, c.done
		})
		m.From = 3
		takes(t, c.name+", twice", base, m, nil)
		// With another voter ahead of it this one makes them most.
		most := with(base, func(r *api.Replica) { r.Voters = []int{2, 3} })
		m.From = 4
		takes(t, c.name+", just most", most, m, func(r *api.Replica) { isNormal(r, 6, c.best, c.done) },
			toAll(most, api.Message{Kind: api.MsgView, View: 6, Commit: c.done, Log: c.best})...)
		many := with(base, func(r *api.Replica) { r.Voters = []int{0, 2, 3} })
		takes(t, c.name+", one more than most", many, m, func(r *api.Replica) {
			r.Voters, r.Best, r.BestView, r.BestDone = []int{0, 2, 3, 4}, c.best, c.view, c.done
		})
	}
	none := with(base, func(r *api.Replica) { forgets(r); r.Votes = []int{1} })
	m := msg(api.MsgState, 2, 6)
	takes(t, "the first one, without entries", none, m, func(r *api.Replica) { r.Voters, r.BestView = []int{2}, 0 })
	three := made(1, 3, 4, api.IsChanging, entries(10, 20, 30))
	three.Commit, three.Acked = 2, []int{1, 2, 3}
	m = msg(api.MsgState, 2, 4)
	three = takes(t, "of 3, one", three, m, func(r *api.Replica) { r.Voters, r.BestView = []int{2}, 0 })
	m.From, m.Normal, m.Commit, m.Log = 0, 2, 1, entries(10, 20, 35)
	takes(t, "of 3, most: its own Commit is the greater one", three, m, func(r *api.Replica) { isNormal(r, 4, entries(10, 20, 35), 2) },
		toAll(three, api.Message{Kind: api.MsgView, View: 4, Commit: 2, Log: entries(10, 20, 35)})...)
	m.Log = entries(10)
	takes(t, "of 3, most: Commit is not above the entries", three, m, func(r *api.Replica) { isNormal(r, 4, entries(10), 1) },
		toAll(three, api.Message{Kind: api.MsgView, View: 4, Commit: 1, Log: entries(10)})...)
}

func TestView(t *testing.T) {
	log := entries(10, 20)
	for how := api.IsNormal; how <= api.IsAsking; how++ {
		r := made(1, 3, 3, how, log)
		r.Commit, r.Acked, r.Votes, r.Voters, r.Best, r.BestView, r.BestDone = 1, []int{1, 1, 1}, []int{0, 1}, []int{2}, entries(7), 2, 1
		name := fmt.Sprint("how ", how, ", view ")
		takes(t, name+"below", r, msg(api.MsgView, 2, 2), nil)
		takes(t, name+"below, of 0", r, msg(api.MsgView, 0, 0), nil)
		takes(t, name+"the same, not of its primary", r, msg(api.MsgView, 2, 3), nil)
		takes(t, name+"above, not of its primary", r, msg(api.MsgView, 0, 5), nil)
		takes(t, name+"above, its own", r, msg(api.MsgView, 0, 4), nil)
		for _, view := range []int{3, 6, latest} {
			if how == api.IsNormal && view == 3 {
				takes(t, name+"the same", r, msg(api.MsgView, 0, view), nil)
				continue
			}
			for _, c := range []struct{ commit, want int }{{0, 1}, {1, 1}, {2, 2}, {3, 3}, {4, 3}, {latest, 3}} {
				m := msg(api.MsgView, 0, view)
				m.Commit, m.Log = c.commit, entries(10, 21, 31)
				takes(t, name+fmt.Sprint(view, c.commit), r, m, func(r *api.Replica) { isNormal(r, view, entries(10, 21, 31), c.want) },
					api.Message{Kind: api.MsgPrepared, From: 1, To: 0, View: view, Index: 3})
			}
			takes(t, name+"without entries", r, msg(api.MsgView, 0, view), func(r *api.Replica) { isNormal(r, view, nil, 0) },
				api.Message{Kind: api.MsgPrepared, From: 1, To: 0, View: view})
		}
	}
	five := made(1, 5, 4, api.IsNormal, log)
	m := msg(api.MsgView, 3, 8)
	m.Log = long(1000)
	takes(t, "of 5, the most entries", five, m, func(r *api.Replica) { isNormal(r, 8, long(1000), 0) },
		api.Message{Kind: api.MsgPrepared, From: 1, To: 3, View: 8, Index: 1000})
}

// Of a view above, or its own while it is not normal, MsgPrepare and MsgCommit make it ask.
func TestBehindPrimary(t *testing.T) {
	log := entries(10, 20)
	for _, kind := range []int{api.MsgPrepare, api.MsgCommit} {
		for how := api.IsNormal; how <= api.IsAsking; how++ {
			r := made(1, 3, 3, how, log)
			r.Commit, r.Acked, r.Votes, r.Voters, r.Best, r.BestView, r.BestDone = 1, []int{1, 2, 1}, []int{0, 1}, []int{2}, entries(7), 2, 1
			name := fmt.Sprint("kind ", kind, ", how ", how, ", view ")
			for _, m := range []api.Message{msg(kind, 2, 2), msg(kind, 0, 0), msg(kind, 2, 3), msg(kind, 0, 4), msg(kind, 2, 4), msg(kind, 0, 5), msg(kind, 2, 6)} {
				m.Index, m.Commit = 3, 2
				takes(t, name+fmt.Sprint(m.View, " of ", m.From), r, m, nil)
			}
			for _, m := range []api.Message{msg(kind, 0, 3), msg(kind, 2, 5), msg(kind, 0, 6), msg(kind, 0, latest)} {
				if how == api.IsNormal && m.View == 3 {
					continue
				}
				for _, n := range []int{0, 1, 2, 3, 4, latest} {
					m.Index, m.Commit = n, n
					takes(t, name+fmt.Sprint(m.View), r, m, func(r *api.Replica) {
						forgets(r)
						r.View, r.How = m.View, api.IsAsking
					}, api.Message{Kind: api.MsgAsk, From: 1, To: m.From, View: m.View, Index: 1})
				}
			}
		}
	}
}

func TestPrepare(t *testing.T) {
	r := made(1, 3, 3, api.IsNormal, entries(10, 20))
	r.Commit, r.Acked, r.Votes, r.Voters, r.Best, r.BestView, r.BestDone = 1, []int{1, 1, 2}, []int{0}, []int{2}, entries(7), 2, 1
	prepared := api.Message{Kind: api.MsgPrepared, From: 1, To: 0, View: 3, Index: 2}
	asks := api.Message{Kind: api.MsgAsk, From: 1, To: 0, View: 3, Index: 2}
	longer := prepared
	longer.Index = 3
	for _, c := range []struct {
		name                      string
		index, time, commit, want int
		log                       []api.Entry
		out                       api.Message
	}{
		{"one more", 3, 21, 0, 1, entries(10, 20, 21), longer},
		{"one more, at the last Time", 3, latest, 2, 2, entries(10, 20, latest), longer},
		{"one more, committed", 3, 30, 3, 3, entries(10, 20, 30), longer},
		{"one more, and one more committed", 3, 30, 4, 3, entries(10, 20, 30), longer},
		{"one more, Commit far beyond", 3, 30, latest, 3, entries(10, 20, 30), longer},
		{"a Time that stands still", 3, 20, 0, 1, entries(10, 20), asks},
		{"a Time that stands still, committed", 3, 20, 3, 2, entries(10, 20), asks},
		{"a Time that falls", 3, 19, 2, 2, entries(10, 20), asks},
		{"the first Time", 3, 1, 2, 2, entries(10, 20), asks},
		{"two more", 4, 30, 0, 1, entries(10, 20), asks},
		{"two more, committed", 4, 30, 4, 2, entries(10, 20), asks},
		{"far beyond", latest, 30, 1, 1, entries(10, 20), asks},
		{"the last one that it has", 2, 30, 0, 1, entries(10, 20), prepared},
		{"the last one, committed", 2, 20, 2, 2, entries(10, 20), prepared},
		{"the last one, Commit beyond", 2, 20, 3, 2, entries(10, 20), prepared},
		{"one that it has", 1, 10, 1, 1, entries(10, 20), prepared},
		{"Index 0", 0, 30, 0, 1, entries(10, 20), prepared},
		{"Index 0, Commit beyond", 0, 30, latest, 2, entries(10, 20), prepared},
	} {
		m := msg(api.MsgPrepare, 0, 3)
		m.Index, m.Commit, m.Log = c.index, c.commit, entries(c.time)
		takes(t, c.name, r, m, func(r *api.Replica) { r.Log, r.Commit = c.log, c.want }, c.out)
	}
	none := made(1, 3, 3, api.IsNormal, nil)
	m := msg(api.MsgPrepare, 0, 3)
	m.Index, m.Log = 1, entries(1)
	takes(t, "the first entry", none, m, func(r *api.Replica) { r.Log = entries(1) }, api.Message{Kind: api.MsgPrepared, From: 1, To: 0, View: 3, Index: 1})
	m.Index = 2
	takes(t, "the second one first", none, m, nil, api.Message{Kind: api.MsgAsk, From: 1, To: 0, View: 3})
	m.Index, m.Log = 1000, entries(20000)
	takes(t, "the last entry that there may be", made(1, 3, 3, api.IsNormal, long(999)), m, func(r *api.Replica) { r.Log = append(long(999), m.Log[0]) },
		api.Message{Kind: api.MsgPrepared, From: 1, To: 0, View: 3, Index: 1000})
	m.Index, m.Commit = 1001, 1001
	takes(t, "one that there may not be", made(1, 3, 3, api.IsNormal, long(1000)), m, func(r *api.Replica) { r.Commit = 1000 },
		api.Message{Kind: api.MsgAsk, From: 1, To: 0, View: 3, Index: 1000})
	m.Index, m.Commit = 1000, 7
	takes(t, "the last one once more", made(1, 3, 3, api.IsNormal, long(1000)), m, func(r *api.Replica) { r.Commit = 7 },
		api.Message{Kind: api.MsgPrepared, From: 1, To: 0, View: 3, Index: 1000})
}

func TestCommit(t *testing.T) {
	r := made(1, 3, 3, api.IsNormal, entries(10, 20, 30))
	r.Commit, r.Acked, r.Votes = 1, []int{1, 1, 2}, []int{0}
	asks := api.Message{Kind: api.MsgAsk, From: 1, To: 0, View: 3, Index: 3}
	for _, c := range []struct {
		commit, want int
		out          []api.Message
	}{
		{0, 1, nil}, {1, 1, nil}, {2, 2, nil}, {3, 3, nil}, {4, 3, []api.Message{asks}}, {latest, 3, []api.Message{asks}},
	} {
		for _, index := range []int{0, 3, 4, 5, latest} {
			for _, log := range [][]api.Entry{nil, entries(40), entries(10, 20, 30, 40)} {
				m := msg(api.MsgCommit, 0, 3)
				m.Index, m.Commit, m.Log = index, c.commit, log
				takes(t, fmt.Sprint("Commit ", c.commit, " Index ", index), r, m, func(r *api.Replica) { r.Commit = c.want }, c.out...)
			}
		}
	}
	takes(t, "without entries", made(1, 3, 3, api.IsNormal, nil), msg(api.MsgCommit, 0, 3), nil)
}

func TestPrepared(t *testing.T) {
	log := entries(10, 20, 30, 40)
	p := made(1, 5, 6, api.IsNormal, log)
	p.Commit, p.Acked = 1, []int{2, 4, 1, 0, 0}
	for _, c := range []struct {
		name        string
		from, index int
		acked       []int
		commit      int
	}{
		{"most reach no more", 3, 1, []int{2, 4, 1, 1, 0}, 1},
		{"most reach one more", 3, 2, []int{2, 4, 1, 2, 0}, 2},
		{"fewer reach further", 3, 4, []int{2, 4, 1, 4, 0}, 2},
		{"all that there is", 0, 4, []int{4, 4, 1, 0, 0}, 1},
		{"one that is had", 0, 2, []int{2, 4, 1, 0, 0}, 1},
		{"less than was told", 0, 1, []int{2, 4, 1, 0, 0}, 1},
		{"nothing", 0, 0, []int{2, 4, 1, 0, 0}, 1},
		{"beyond the log", 4, 5, []int{2, 4, 1, 0, 4}, 2},
		{"far beyond the log", 2, latest, []int{2, 4, 4, 0, 0}, 2},
	} {
		m := msg(api.MsgPrepared, c.from, 6)
		m.Index = c.index
		var out []api.Message
		if c.commit > 1 {
			out = toAll(p, api.Message{Kind: api.MsgCommit, View: 6, Commit: c.commit})
		}
		takes(t, c.name, p, m, func(r *api.Replica) { r.Acked, r.Commit = c.acked, c.commit }, out...)
	}
	m := msg(api.MsgPrepared, 0, 4)
	m.Index = 3
	three := made(1, 3, 4, api.IsNormal, log)
	three = takes(t, "of 3, most", three, m, func(r *api.Replica) { r.Acked[0], r.Commit = 3, 3 },
		api.Message{Kind: api.MsgCommit, From: 1, To: 0, View: 4, Commit: 3}, api.Message{Kind: api.MsgCommit, From: 1, To: 2, View: 4, Commit: 3})
	takes(t, "of 3, once more", three, m, nil)
	m.From = 2
	takes(t, "of 3, all, but no more", three, m, func(r *api.Replica) { r.Acked[2] = 3 })
	m.Index = 4
	takes(t, "of 3, all, and more", three, m, func(r *api.Replica) { r.Acked[2], r.Commit = 4, 4 },
		toAll(three, api.Message{Kind: api.MsgCommit, View: 4, Commit: 4})...)
	// Commit may be ahead of what Acked says, behind a Restart or in a new view.
	ahead := with(made(1, 3, 4, api.IsNormal, log), func(r *api.Replica) { r.Commit = 4 })
	m.Index = 2
	takes(t, "Commit does not fall", ahead, m, func(r *api.Replica) { r.Acked[2] = 2 })
	lost := with(made(1, 3, 4, api.IsNormal, log), func(r *api.Replica) { r.Acked[1] = 0 })
	takes(t, "its own Acked counts as it stands", lost, m, func(r *api.Replica) { r.Acked[2] = 2 })
	m.Index = 4
	for _, view := range []int{0, 1, 3, 5, 7, latest} {
		m.View = view
		takes(t, fmt.Sprint("view ", view), made(1, 3, 4, api.IsNormal, log), m, nil)
	}
	m.View = 3
	takes(t, "not the primary", made(1, 3, 3, api.IsNormal, log), m, nil)
	m.View = 4
	for how := api.IsChanging; how <= api.IsAsking; how++ {
		takes(t, fmt.Sprint("how ", how), made(1, 3, 4, how, log), m, nil)
	}
}

func TestAsk(t *testing.T) {
	log := entries(10, 20, 30)
	// View 4 is 1's own, view 3 is 0's: whoever is normal answers.
	for _, view := range []int{3, 4} {
		r := made(1, 3, view, api.IsNormal, log)
		r.Commit = 2
		for _, from := range []int{0, 2} {
			for index := range 4 {
				m := msg(api.MsgAsk, from, view)
				m.Index = index
				takes(t, fmt.Sprint("Index ", index), r, m, nil, api.Message{Kind: api.MsgLog, From: 1, To: from, View: view, Index: index, Commit: 2, Log: log[index:]})
			}
			for _, index := range []int{4, 5, latest} {
				m := msg(api.MsgAsk, from, view)
				m.Index = index
				takes(t, fmt.Sprint("Index ", index), r, m, nil)
			}
			for _, other := range []int{view - 1, view + 1, view - 3, view + 3} {
				takes(t, fmt.Sprint("view ", other), r, msg(api.MsgAsk, from, other), nil)
			}
			for how := api.IsChanging; how <= api.IsAsking; how++ {
				takes(t, fmt.Sprint("how ", how), made(1, 3, view, how, log), msg(api.MsgAsk, from, view), nil)
			}
		}
	}
	none := made(1, 3, 3, api.IsNormal, nil)
	takes(t, "without entries", none, msg(api.MsgAsk, 0, 3), nil, api.Message{Kind: api.MsgLog, From: 1, To: 0, View: 3})
}

func TestLogOfOneThatAsks(t *testing.T) {
	r := made(1, 3, 6, api.IsAsking, entries(10, 20, 30, 40))
	r.Normal, r.Commit, r.Acked, r.Votes, r.Voters, r.Best, r.BestView, r.BestDone = 2, 2, []int{1, 2, 3}, []int{0}, []int{2}, entries(7), 2, 1
	for _, c := range []struct {
		name          string
		index, commit int
		log           []api.Entry
		want          []api.Entry
		wantCommit    int
	}{
		{"Index at Commit", 2, 3, entries(35, 36), entries(10, 20, 35, 36), 3},
		{"Index at Commit, none behind it", 2, 2, nil, entries(10, 20), 2},
		{"Index at Commit, one", 2, 0, entries(21), entries(10, 20, 21), 2},
		{"Index at Commit, Commit beyond", 2, 9, entries(21), entries(10, 20, 21), 3},
		{"Index below Commit, up to it", 1, 2, entries(22), entries(10, 22), 2},
		{"Index below Commit, beyond it", 1, 2, entries(20, 25), entries(10, 20, 25), 2},
		{"Index 0, up to Commit", 0, 1, entries(10, 20), entries(10, 20), 2},
		{"Index 0, beyond Commit", 0, 3, entries(1, 2, 3), entries(1, 2, 3), 3},
		{"Index 0, the most entries", 0, 999, long(1000), long(1000), 999},
		{"at the last Time", 2, 2, entries(latest), entries(10, 20, latest), 2},
	} {
		for _, from := range []int{0, 2} {
			m := msg(api.MsgLog, from, 6)
			m.Index, m.Commit, m.Log = c.index, c.commit, c.log
			takes(t, c.name, r, m, func(r *api.Replica) { isNormal(r, 6, c.want, c.wantCommit) },
				api.Message{Kind: api.MsgPrepared, From: 1, To: from, View: 6, Index: len(c.want)})
		}
	}
	for _, c := range []struct {
		name  string
		index int
		log   []api.Entry
	}{
		{"Index above Commit", 3, entries(31, 32)},
		{"Index above Commit, none", 3, nil},
		{"Index at the number of entries", 4, entries(50)},
		{"Index above that", 5, entries(50)},
		{"Index far above", latest, entries(50)},
		{"short of Commit", 1, nil},
		{"short of Commit, of 0", 0, entries(10)},
		{"none of 0", 0, nil},
		{"a Time that stands still", 2, entries(20, 21)},
		{"a Time that falls", 2, entries(19, 21)},
		{"a Time that falls, of 1", 1, entries(9, 21)},
		{"more than the most entries", 2, behind(100, 999)},
		{"more than the most entries, of 1", 1, behind(100, 1000)},
	} {
		m := msg(api.MsgLog, 0, 6)
		m.Index, m.Commit, m.Log = c.index, 2, c.log
		takes(t, c.name, r, m, nil)
	}
	m := msg(api.MsgLog, 0, 6)
	m.Index, m.Log = 2, behind(100, 998)
	takes(t, "just the most entries", r, m, func(r *api.Replica) { isNormal(r, 6, append(entries(10, 20), m.Log...), 2) },
		api.Message{Kind: api.MsgPrepared, From: 1, To: 0, View: 6, Index: 1000})
	m.Log = entries(50)
	for _, view := range []int{3, 5, 7, 9} {
		m.View = view
		takes(t, fmt.Sprint("view ", view), r, m, nil)
	}
	// By the words one that asks may be the primary, too.
	m.View = 7
	takes(t, "the primary", with(r, func(r *api.Replica) { r.View = 7 }), m, func(r *api.Replica) { isNormal(r, 7, entries(10, 20, 50), 2) },
		api.Message{Kind: api.MsgPrepared, From: 1, To: 0, View: 7, Index: 3})
	m.View = 6
	takes(t, "one that changes", with(r, func(r *api.Replica) { r.How = api.IsChanging }), m, nil)
}

func TestLogOfOneThatIsNormal(t *testing.T) {
	r := made(1, 3, 6, api.IsNormal, entries(10, 20, 30))
	r.Commit, r.Acked, r.Votes, r.Voters, r.Best, r.BestView, r.BestDone = 2, []int{1, 2, 3}, []int{0}, []int{2}, entries(7), 2, 1
	for _, c := range []struct {
		name          string
		index, commit int
		log           []api.Entry
		want          []api.Entry
		wantCommit    int
	}{
		{"behind its own", 3, 2, entries(31, 32), entries(10, 20, 30, 31, 32), 2},
		{"behind its own, committed", 3, 4, entries(31, 32), entries(10, 20, 30, 31, 32), 4},
		{"behind its own, Commit beyond", 3, 6, entries(31, 32), entries(10, 20, 30, 31, 32), 5},
		{"behind its own, none", 3, 3, nil, entries(10, 20, 30), 3},
		{"overlaps its own", 2, 1, entries(30, 31), entries(10, 20, 30, 31), 2},
		{"overlaps all of it", 0, 0, entries(10, 20, 30, 40, 50), entries(10, 20, 30, 40, 50), 2},
		{"overlaps other Times", 1, 0, entries(1, 2, 40), entries(10, 20, 30, 40), 2},
		{"ends where it ends", 1, 3, entries(20, 30), entries(10, 20, 30), 3},
		{"ends where it ends, of 0", 0, 9, entries(1, 2, 3), entries(10, 20, 30), 3},
		{"ends ahead of that", 1, 1, entries(20), entries(10, 20, 30), 2},
		{"none of 0", 0, latest, nil, entries(10, 20, 30), 3},
		{"at the last Time", 3, 0, entries(latest), entries(10, 20, 30, latest), 2},
	} {
		for _, from := range []int{0, 2} {
			m := msg(api.MsgLog, from, 6)
			m.Index, m.Commit, m.Log = c.index, c.commit, c.log
			takes(t, c.name, r, m, func(r *api.Replica) { r.Log, r.Commit = c.want, c.wantCommit },
				api.Message{Kind: api.MsgPrepared, From: 1, To: from, View: 6, Index: len(c.want)})
		}
	}
	for _, c := range []struct {
		name  string
		index int
		log   []api.Entry
	}{
		{"Index above the number of entries", 4, entries(50)},
		{"Index above it, none", 4, nil},
		{"Index far above", latest, entries(50)},
		{"a Time that stands still", 3, entries(30, 31)},
		{"a Time that falls", 3, entries(29)},
		{"a Time that falls where it lacks it", 1, entries(1, 2, 30)},
	} {
		m := msg(api.MsgLog, 0, 6)
		m.Index, m.Commit, m.Log = c.index, 3, c.log
		takes(t, c.name, r, m, nil)
	}
	full := made(1, 3, 6, api.IsNormal, long(999))
	m := msg(api.MsgLog, 0, 6)
	m.Index, m.Commit, m.Log = 998, 5, entries(9990, 9991)
	takes(t, "just the most entries", full, m, func(r *api.Replica) { r.Log, r.Commit = append(r.Log, m.Log[1]), 5 },
		api.Message{Kind: api.MsgPrepared, From: 1, To: 0, View: 6, Index: 1000})
	m.Log = entries(9990, 9991, 9992)
	takes(t, "one more than the most", full, m, nil)
	m.Index, m.Log = 0, long(1000)
	takes(t, "just the most, all of them", full, m, func(r *api.Replica) { r.Log, r.Commit = long(1000), 5 },
		api.Message{Kind: api.MsgPrepared, From: 1, To: 0, View: 6, Index: 1000})
	m.Index, m.Log = 3, entries(50)
	for _, view := range []int{3, 5, 7, 9} {
		m.View = view
		takes(t, fmt.Sprint("view ", view), r, m, nil)
	}
	m.View = 7
	takes(t, "the primary", with(r, func(r *api.Replica) { r.View, r.Normal = 7, 7 }), m, nil)
	for how := api.IsChanging; how <= api.IsAsking; how++ {
		m.View, m.Index = 6, 3
		takes(t, fmt.Sprint("how ", how), with(r, func(r *api.Replica) { r.How = how }), m, nil)
	}
}
