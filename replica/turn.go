package replica

import (
	"slices"

	"falsework/api"
)

// turn is a replica that is at work, and the messages that it sends by it.
type turn struct {
	api.Replica
	out []api.Message
}

// propose puts an entry behind the log and tells its place.
func (t *turn) propose(time int, data string) int {
	must(isFrom(0, time, api.MaxTime-1) && len(data) <= maxData, api.ErrArg)
	must(t.leads(), api.ErrPrimary)
	entry := api.Entry{Time: max(time, 1, t.lastTime()+1), Data: data}
	must(len(t.Log) < api.MaxLog && entry.Time < api.MaxTime, api.ErrFull)
	t.Log = append(t.Log, entry)
	place := len(t.Log)
	t.Acked[t.ID] = place
	if t.N == 1 {
		t.Commit = place
	}
	t.sendAll(api.Message{Kind: api.MsgPrepare, Index: place, Commit: t.Commit, Log: []api.Entry{entry}})
	return place
}

// suspect goes on to the next view; one that is alone need not ask anybody.
func (t *turn) suspect() {
	next := t.View + 1
	must(next < api.MaxTime, api.ErrFull)
	if t.N == 1 {
		t.beNormal(next, t.Log, t.Commit)
		return
	}
	t.changeTo(next)
}

// restart forgets what others have told it of themselves.
func (t *turn) restart() {
	t.beClear()
	if t.How == api.IsChanging {
		t.Votes = []int{t.ID}
	}
	t.ackOwn()
}

// take takes m, by its kind.
func (t *turn) take(m api.Message) {
	kinds := t.kinds()
	must(isFrom(1, m.Kind, len(kinds)) && t.mayCome(m), api.ErrArg)
	kinds[m.Kind-1](m)
}

// kinds tells what takes each kind of message, from the first kind on.
func (t *turn) kinds() []func(api.Message) {
	return []func(api.Message){
		api.MsgPrepare - 1:  t.prepare,
		api.MsgPrepared - 1: t.prepared,
		api.MsgCommit - 1:   t.commit,
		api.MsgChange - 1:   t.change,
		api.MsgState - 1:    t.state,
		api.MsgView - 1:     t.view,
		api.MsgAsk - 1:      t.ask,
		api.MsgLog - 1:      t.log,
	}
}

// mayCome tells whether m may come to this replica.
func (t *turn) mayCome(m api.Message) bool {
	for _, n := range [...]int{m.View, m.Index, m.Commit, m.Normal} {
		if !isFrom(0, n, api.MaxTime-1) {
			return false
		}
	}
	isOther := isOneOf(m.From, t.N) && m.From != t.ID
	return isOther && m.To == t.ID && mayLog(m.Log) && (m.Kind != api.MsgPrepare || len(m.Log) == 1)
}

// change counts From as one that is for its view.
func (t *turn) change(m api.Message) {
	if m.View > t.View {
		t.changeTo(m.View)
	}
	if m.View < t.View || t.How != api.IsChanging || slices.Contains(t.Votes, m.From) {
		return
	}
	t.Votes = joined(t.Votes, m.From)
	if t.isJustMost(t.Votes) {
		t.tellState()
	}
}

// tellState tells the new primary what is here; the primary itself need not send it.
func (t *turn) tellState() {
	m := api.Message{Kind: api.MsgState, Normal: t.Normal, Commit: t.Commit, Log: t.Log}
	if to := t.primary(t.View); to != t.ID {
		t.send(to, m)
		return
	}
	m.From, m.View = t.ID, t.View
	t.state(m)
}

// state keeps the best log of those that are sent, and goes by it once most have sent one.
func (t *turn) state(m api.Message) {
	if m.View < t.View || t.primary(m.View) != t.ID {
		return
	}
	if m.View > t.View {
		t.changeTo(m.View)
	}
	if t.How != api.IsChanging || slices.Contains(t.Voters, m.From) {
		return
	}
	t.Voters = joined(t.Voters, m.From)
	t.keepBest(m)
	if t.isJustMost(t.Voters) {
		t.beNormal(t.View, t.Best, t.BestDone)
		t.sendAll(api.Message{Kind: api.MsgView, Commit: t.Commit, Log: t.Log})
	}
}

// keepBest lets m's log be the best one, if it is; what is done counts, whoever tells it.
func (t *turn) keepBest(m api.Message) {
	if m.Normal > t.BestView || m.Normal == t.BestView && len(m.Log) > len(t.Best) {
		t.Best, t.BestView = slices.Clone(m.Log), m.Normal
	}
	t.BestDone = min(max(t.BestDone, m.Commit), len(t.Best))
}

// view goes by the log of a new view.
func (t *turn) view(m api.Message) {
	isHad := m.View == t.View && t.How == api.IsNormal
	if m.View < t.View || m.From != t.primary(m.View) || isHad {
		return
	}
	t.beNormal(m.View, m.Log, m.Commit)
	t.sendPrepared(m.From)
}

// prepare puts the primary's next entry behind the log.
func (t *turn) prepare(m api.Message) {
	if !t.follows(m) {
		return
	}
	if m.Index == len(t.Log)+1 && fit(t.Log, m.Log) {
		t.Log = append(t.Log, m.Log...)
	}
	t.raiseCommit(m.Commit)
	if m.Index > len(t.Log) {
		t.askFrom(m.From, len(t.Log))
		return
	}
	t.sendPrepared(m.From)
}

// commit goes as far as the primary has.
func (t *turn) commit(m api.Message) {
	if !t.follows(m) {
		return
	}
	t.raiseCommit(m.Commit)
	if m.Commit > len(t.Log) {
		t.askFrom(m.From, len(t.Log))
	}
}

// follows tells whether m is of the primary of the view in which this one is normal; one that is behind a primary asks it for its log.
func (t *turn) follows(m api.Message) bool {
	if m.View < t.View || m.From != t.primary(m.View) {
		return false
	}
	if m.View == t.View && t.How == api.IsNormal {
		return true
	}
	t.View, t.How = m.View, api.IsAsking
	t.beClear()
	// What is behind Commit may be another log's: it is asked for anew.
	t.askFrom(m.From, t.Commit)
	return false
}

// prepared counts how far From has the log, and commits what most have.
func (t *turn) prepared(m api.Message) {
	if m.View != t.View || !t.leads() {
		return
	}
	t.Acked[m.From] = min(max(t.Acked[m.From], m.Index), len(t.Log))
	if reached := t.mostReach(); reached > t.Commit {
		t.Commit = reached
		t.sendAll(api.Message{Kind: api.MsgCommit, Commit: reached})
	}
}

// ask sends From the entries that it lacks.
func (t *turn) ask(m api.Message) {
	if m.View != t.View || t.How != api.IsNormal || m.Index > len(t.Log) {
		return
	}
	t.send(m.From, api.Message{Kind: api.MsgLog, Index: m.Index, Commit: t.Commit, Log: t.Log[m.Index:]})
}

// log puts in what was asked for.
func (t *turn) log(m api.Message) {
	if m.View != t.View || m.Index > len(t.Log) {
		return
	}
	reach := m.Index + len(m.Log)
	switch {
	case t.How == api.IsAsking && isFrom(m.Index, t.Commit, reach):
		t.replace(m)
	case t.How == api.IsNormal && !t.leads():
		t.extend(m)
	}
}

// replace goes by m's log from Index on: this one is of an older view, and holds for sure up to Commit alone.
func (t *turn) replace(m api.Message) {
	head := t.Log[:m.Index]
	if !fit(head, m.Log) {
		return
	}
	t.beNormal(t.View, slices.Concat(head, m.Log), m.Commit)
	t.sendPrepared(m.From)
}

// extend puts behind the log what it lacks of m's.
func (t *turn) extend(m api.Message) {
	had := min(len(t.Log)-m.Index, len(m.Log))
	more := m.Log[had:]
	if !fit(t.Log, more) {
		return
	}
	t.Log = append(t.Log, more...)
	t.raiseCommit(m.Commit)
	t.sendPrepared(m.From)
}

// beClear forgets the change of the view.
func (t *turn) beClear() {
	t.Votes, t.Voters, t.Best = nil, nil, nil
	t.BestView, t.BestDone = -1, 0
}

// beNormal goes by a log in a view; what is committed stays so.
func (t *turn) beNormal(view int, log []api.Entry, commit int) {
	t.View, t.Normal, t.How = view, view, api.IsNormal
	t.Log = slices.Clone(log)
	t.beClear()
	t.ackOwn()
	t.Commit = min(max(t.Commit, commit), len(log))
	if t.N == 1 {
		t.Commit = len(log)
	}
}

// changeTo is for a view, and asks the others to be so too.
func (t *turn) changeTo(view int) {
	t.View, t.How = view, api.IsChanging
	t.beClear()
	t.Votes = []int{t.ID}
	t.sendAll(api.Message{Kind: api.MsgChange})
}

// ackOwn knows of its own log alone.
func (t *turn) ackOwn() {
	t.Acked = make([]int, t.N)
	t.Acked[t.ID] = len(t.Log)
}

// raiseCommit lets Commit be n, if it is greater, as far as there are entries.
func (t *turn) raiseCommit(n int) {
	t.Commit = min(max(t.Commit, n), len(t.Log))
}

// primary tells the primary of a view.
func (t *turn) primary(view int) int {
	return view % t.N
}

// leads tells whether it is the primary of its view, and normal in it.
func (t *turn) leads() bool {
	return t.How == api.IsNormal && t.primary(t.View) == t.ID
}

// isJustMost tells whether without any one of ids they would not be most.
func (t *turn) isJustMost(ids []int) bool {
	return len(ids) == t.N/2+1
}

// mostReach tells the greatest number that most of Acked reach.
func (t *turn) mostReach() int {
	rising := slices.Sorted(slices.Values(t.Acked))
	// N is odd: the one in the middle and those above it are just most.
	return rising[t.N/2]
}

// lastTime tells the last entry's Time, 0 if there is none.
func (t *turn) lastTime() int {
	if len(t.Log) == 0 {
		return 0
	}
	return t.Log[len(t.Log)-1].Time
}

// sendPrepared tells a primary, or whoever has sent its entries, how far the log reaches.
func (t *turn) sendPrepared(to int) {
	t.send(to, api.Message{Kind: api.MsgPrepared, Index: len(t.Log)})
}

// askFrom asks for the entries behind a place.
func (t *turn) askFrom(to, place int) {
	t.send(to, api.Message{Kind: api.MsgAsk, Index: place})
}

// sendAll sends m to all others, by rising IDs.
func (t *turn) sendAll(m api.Message) {
	for to := range t.N {
		if to != t.ID {
			t.send(to, m)
		}
	}
}

// send sends m, of this replica and its view, with a Log of its own, since whoever is told it may write into it.
func (t *turn) send(to int, m api.Message) {
	m.From, m.To, m.View = t.ID, to, t.View
	m.Log = slices.Clone(m.Log)
	t.out = append(t.out, m)
}

// joined tells ids, which rise, with id, which is not there yet, among them.
func joined(ids []int, id int) []int {
	at, _ := slices.BinarySearch(ids, id)
	return slices.Insert(ids, at, id)
}

// fit tells whether more may stand behind log, both of which may be logs.
func fit(log, more []api.Entry) bool {
	if len(log) == 0 || len(more) == 0 {
		return true
	}
	return len(log)+len(more) <= api.MaxLog && log[len(log)-1].Time < more[0].Time
}
