package replica

import (
	"fmt"
	"slices"
	"sort"

	"falsework/api"
)

// This file reckons by the document's words, sentence by sentence and with its numbers written out, and calls nothing of the package.

const timeEnd = 1099511627776

// words is what the document's words make of one replica.
type words struct {
	r   api.Replica
	out []api.Message
}

// clone copies a replica, with just the room that it needs.
func clone(r api.Replica) api.Replica {
	r.Log = append([]api.Entry{}, r.Log...)
	r.Best = append([]api.Entry{}, r.Best...)
	r.Acked = append([]int{}, r.Acked...)
	r.Votes = append([]int{}, r.Votes...)
	r.Voters = append([]int{}, r.Voters...)
	return r
}

// logByWords tells whether entries are as a log is told.
func logByWords(l []api.Entry) bool {
	if len(l) > 1000 {
		return false
	}
	for i, e := range l {
		if e.Time < 1 || e.Time >= timeEnd || len(e.Data) > 20000 {
			return false
		}
		if i > 0 && l[i-1].Time >= e.Time {
			return false
		}
	}
	return true
}

func idsByWords(ids []int, n int) bool {
	for i, id := range ids {
		if id < 0 || id >= n || i > 0 && ids[i-1] >= id {
			return false
		}
	}
	return true
}

// mayByWords is 11.2.
func mayByWords(r api.Replica) bool {
	if r.N != 1 && r.N != 3 && r.N != 5 {
		return false
	}
	if r.ID < 0 || r.ID > r.N-1 {
		return false
	}
	if r.View < 0 || r.View >= timeEnd || r.Normal < 0 || r.Normal >= timeEnd || r.Normal > r.View {
		return false
	}
	switch r.How {
	case 0:
		if r.Normal != r.View {
			return false
		}
	case 1, 2:
	default:
		return false
	}
	if !logByWords(r.Log) || !logByWords(r.Best) {
		return false
	}
	if r.Commit < 0 || r.Commit > len(r.Log) || len(r.Acked) != r.N {
		return false
	}
	for _, a := range r.Acked {
		if a < 0 || a > len(r.Log) {
			return false
		}
	}
	if !idsByWords(r.Votes, r.N) || !idsByWords(r.Voters, r.N) {
		return false
	}
	return r.BestView >= -1 && r.BestView < timeEnd && r.BestDone >= 0 && r.BestDone <= len(r.Best)
}

func (w *words) clear() {
	w.r.Votes, w.r.Voters, w.r.Best, w.r.BestView, w.r.BestDone = nil, nil, nil, -1, 0
}

func (w *words) noughts() {
	w.r.Acked = nil
	for i := range w.r.N {
		if i == w.r.ID {
			w.r.Acked = append(w.r.Acked, len(w.r.Log))
		} else {
			w.r.Acked = append(w.r.Acked, 0)
		}
	}
}

// upTo is 'Commit is the greater one of itself and c, not above the number of entries'.
func (w *words) upTo(c int) {
	if c > w.r.Commit {
		w.r.Commit = c
	}
	if w.r.Commit > len(w.r.Log) {
		w.r.Commit = len(w.r.Log)
	}
}

func (w *words) normal(v int, log []api.Entry, c int) {
	w.r.View, w.r.Normal, w.r.How = v, v, 0
	w.clear()
	w.r.Log = append([]api.Entry{}, log...)
	w.noughts()
	w.upTo(c)
	if w.r.N == 1 {
		w.r.Commit = len(w.r.Log)
	}
}

func (w *words) one(m api.Message) {
	m.From, m.View = w.r.ID, w.r.View
	m.Log = append([]api.Entry{}, m.Log...)
	w.out = append(w.out, m)
}

func (w *words) all(m api.Message) {
	for i := 0; i < w.r.N; i++ {
		if i == w.r.ID {
			continue
		}
		m.To = i
		w.one(m)
	}
}

func (w *words) changes(v int) {
	w.r.View, w.r.How = v, 1
	w.clear()
	w.r.Votes = []int{w.r.ID}
	w.all(api.Message{Kind: 4})
}

// newByWords is 11.1.
func newByWords(id, n int) (api.Replica, int) {
	for _, may := range []int{1, 3, 5} {
		if n == may && id >= 0 && id <= n-1 {
			r := api.Replica{ID: id, N: n, BestView: -1}
			for range n {
				r.Acked = append(r.Acked, 0)
			}
			return r, 0
		}
	}
	return api.Replica{}, 1
}

// proposeByWords is 11.3.
func proposeByWords(r api.Replica, time int, data string) (api.Replica, []api.Message, int, int) {
	w := words{r: clone(r)}
	if !mayByWords(r) || time < 0 || time >= timeEnd || len(data) > 20000 {
		return w.r, nil, 0, 1
	}
	if r.How != 0 || r.View%r.N != r.ID {
		return w.r, nil, 0, 17
	}
	at := time
	if at < 1 {
		at = 1
	}
	if n := len(r.Log); n > 0 && at < r.Log[n-1].Time+1 {
		at = r.Log[n-1].Time + 1
	}
	if len(r.Log) >= 1000 || at >= timeEnd {
		return w.r, nil, 0, 4
	}
	e := api.Entry{Time: at, Data: data}
	w.r.Log = append(w.r.Log, e)
	w.r.Acked[r.ID] = len(w.r.Log)
	if r.N == 1 {
		w.r.Commit = len(w.r.Log)
	}
	w.all(api.Message{Kind: 1, Index: len(w.r.Log), Commit: w.r.Commit, Log: []api.Entry{e}})
	return w.r, w.out, len(w.r.Log), 0
}

// suspectByWords is 11.4.
func suspectByWords(r api.Replica) (api.Replica, []api.Message, int) {
	w := words{r: clone(r)}
	if !mayByWords(r) {
		return w.r, nil, 1
	}
	if r.View+1 >= timeEnd {
		return w.r, nil, 4
	}
	if r.N == 1 {
		w.normal(r.View+1, r.Log, 0)
		return w.r, nil, 0
	}
	w.changes(r.View + 1)
	return w.r, w.out, 0
}

// restartByWords is 11.6.
func restartByWords(r api.Replica) (api.Replica, int) {
	w := words{r: clone(r)}
	if !mayByWords(r) {
		return w.r, 1
	}
	w.clear()
	if r.How == 1 {
		w.r.Votes = []int{r.ID}
	}
	w.noughts()
	return w.r, 0
}

// takeByWords is 11.5.
func takeByWords(r api.Replica, m api.Message) (api.Replica, []api.Message, int) {
	w := words{r: clone(r)}
	if !mayByWords(r) || m.From < 0 || m.From >= r.N || m.From == r.ID || m.To != r.ID || !logByWords(m.Log) {
		return w.r, nil, 1
	}
	for _, n := range []int{m.View, m.Index, m.Commit, m.Normal} {
		if n < 0 || n >= timeEnd {
			return w.r, nil, 1
		}
	}
	switch m.Kind {
	case 1, 3:
		if m.Kind == 1 && len(m.Log) != 1 {
			return w.r, nil, 1
		}
		w.prepareOrCommit(m)
	case 2:
		w.prepared(m)
	case 4:
		w.change(m)
	case 5:
		w.state(m)
	case 6:
		w.view(m)
	case 7:
		w.ask(m)
	case 8:
		w.log(m)
	default:
		return w.r, nil, 1
	}
	return w.r, w.out, 0
}

func (w *words) change(m api.Message) {
	if m.View < w.r.View {
		return
	}
	if m.View > w.r.View {
		w.changes(m.View)
	} else if w.r.How != 1 {
		return
	}
	before := len(w.r.Votes)
	w.r.Votes = among(w.r.Votes, m.From)
	if len(w.r.Votes) == before || !justMost(len(w.r.Votes), w.r.N) {
		return
	}
	state := api.Message{Kind: 5, From: w.r.ID, To: w.r.View % w.r.N, View: w.r.View, Normal: w.r.Normal, Commit: w.r.Commit, Log: w.r.Log}
	if state.To == w.r.ID {
		w.state(state)
	} else {
		w.one(state)
	}
}

func (w *words) state(m api.Message) {
	if m.View < w.r.View || m.View%w.r.N != w.r.ID {
		return
	}
	if m.View > w.r.View {
		w.changes(m.View)
	}
	if w.r.How != 1 || slices.Contains(w.r.Voters, m.From) {
		return
	}
	w.r.Voters = among(w.r.Voters, m.From)
	if m.Normal > w.r.BestView || m.Normal == w.r.BestView && len(m.Log) > len(w.r.Best) {
		w.r.Best = append([]api.Entry{}, m.Log...)
		w.r.BestView = m.Normal
	}
	if m.Commit > w.r.BestDone {
		w.r.BestDone = m.Commit
	}
	if w.r.BestDone > len(w.r.Best) {
		w.r.BestDone = len(w.r.Best)
	}
	if justMost(len(w.r.Voters), w.r.N) {
		w.normal(w.r.View, w.r.Best, w.r.BestDone)
		w.all(api.Message{Kind: 6, Commit: w.r.Commit, Log: w.r.Log})
	}
}

func (w *words) view(m api.Message) {
	if m.View < w.r.View || m.From != m.View%w.r.N {
		return
	}
	if m.View == w.r.View && w.r.How == 0 {
		return
	}
	w.normal(m.View, m.Log, m.Commit)
	w.one(api.Message{Kind: 2, To: m.From, Index: len(w.r.Log)})
}

func (w *words) prepareOrCommit(m api.Message) {
	if m.View < w.r.View || m.From != m.View%w.r.N {
		return
	}
	if m.View > w.r.View || w.r.How != 0 {
		w.r.View, w.r.How = m.View, 2
		w.clear()
		w.one(api.Message{Kind: 7, To: m.From, Index: w.r.Commit})
		return
	}
	long := len(w.r.Log)
	if m.Kind == 1 && m.Index == long+1 && (long == 0 || w.r.Log[long-1].Time < m.Log[0].Time) && long < 1000 {
		w.r.Log = append(w.r.Log, m.Log[0])
		long++
	}
	w.upTo(m.Commit)
	if m.Kind == 1 && m.Index <= long {
		w.one(api.Message{Kind: 2, To: m.From, Index: long})
	}
	if m.Kind == 1 && m.Index > long || m.Kind == 3 && m.Commit > long {
		w.one(api.Message{Kind: 7, To: m.From, Index: long})
	}
}

func (w *words) prepared(m api.Message) {
	if m.View != w.r.View || w.r.How != 0 || w.r.View%w.r.N != w.r.ID {
		return
	}
	for w.r.Acked[m.From] < m.Index && w.r.Acked[m.From] < len(w.r.Log) {
		w.r.Acked[m.From]++
	}
	for n := len(w.r.Log); n > w.r.Commit; n-- {
		reach := 0
		for _, a := range w.r.Acked {
			if a >= n {
				reach++
			}
		}
		if 2*reach > w.r.N {
			w.r.Commit = n
			w.all(api.Message{Kind: 3, Commit: n})
			return
		}
	}
}

func (w *words) ask(m api.Message) {
	if m.View == w.r.View && w.r.How == 0 && m.Index <= len(w.r.Log) {
		w.one(api.Message{Kind: 8, To: m.From, Index: m.Index, Commit: w.r.Commit, Log: w.r.Log[m.Index:]})
	}
}

func (w *words) log(m api.Message) {
	if m.View != w.r.View || m.Index > len(w.r.Log) {
		return
	}
	if w.r.How == 2 && m.Index <= w.r.Commit && m.Index+len(m.Log) >= w.r.Commit {
		whole := append(append([]api.Entry{}, w.r.Log[:m.Index]...), m.Log...)
		if logByWords(whole) {
			w.normal(w.r.View, whole, m.Commit)
			w.one(api.Message{Kind: 2, To: m.From, Index: len(whole)})
		}
		return
	}
	if w.r.How == 0 && w.r.View%w.r.N != w.r.ID {
		whole := append([]api.Entry{}, w.r.Log...)
		for i, e := range m.Log {
			if m.Index+i >= len(w.r.Log) {
				whole = append(whole, e)
			}
		}
		if logByWords(whole) {
			w.r.Log = whole
			w.upTo(m.Commit)
			w.one(api.Message{Kind: 2, To: m.From, Index: len(whole)})
		}
	}
}

func justMost(k, n int) bool {
	return 2*k > n && 2*(k-1) <= n
}

// among puts an ID among others, once.
func among(ids []int, id int) []int {
	for _, other := range ids {
		if other == id {
			return ids
		}
	}
	ids = append(append([]int{}, ids...), id)
	sort.Ints(ids)
	return ids
}

// sameReplica tells whether two replicas are, in every part.
func sameReplica(a, b api.Replica) bool {
	return a.ID == b.ID && a.N == b.N && a.View == b.View && a.Normal == b.Normal && a.How == b.How &&
		slices.Equal(a.Log, b.Log) && a.Commit == b.Commit && slices.Equal(a.Acked, b.Acked) &&
		slices.Equal(a.Votes, b.Votes) && slices.Equal(a.Voters, b.Voters) && slices.Equal(a.Best, b.Best) &&
		a.BestView == b.BestView && a.BestDone == b.BestDone
}

// sameMessages tells whether lists of messages are, part by part.
func sameMessages(a, b []api.Message) bool {
	return slices.EqualFunc(a, b, func(x, y api.Message) bool {
		return x.Kind == y.Kind && x.From == y.From && x.To == y.To && x.View == y.View && x.Index == y.Index &&
			x.Commit == y.Commit && x.Normal == y.Normal && slices.Equal(x.Log, y.Log)
	})
}

// text tells a replica for whoever reads why a test fails.
func text(r api.Replica) string {
	if len(r.Log) > 8 || len(r.Best) > 8 {
		n, b := len(r.Log), len(r.Best)
		r.Log, r.Best = nil, nil
		return fmt.Sprintf("%+v with %d and %d entries", r, n, b)
	}
	return fmt.Sprintf("%+v", r)
}

// texts tells messages likewise.
func texts(ms []api.Message) string {
	s := fmt.Sprint(len(ms), " messages")
	for _, m := range ms {
		if n := len(m.Log); n > 8 {
			m.Log = nil
			s += fmt.Sprintf("\n\t%+v with %d entries", m, n)
			continue
		}
		s += fmt.Sprintf("\n\t%+v", m)
	}
	return s
}
