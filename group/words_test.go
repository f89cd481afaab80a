package group

import (
	"fmt"
	"slices"
	"testing"

	"falsework/api"
	"falsework/replica"
)

// plain is a group by the document's words: lists of its own, and layer 11's calls.
type plain struct {
	all  []api.Replica
	runs []bool
	net  []api.Message
	sent []api.Message // by the last call, whether there was room or not
}

func newByWords(n int) (*plain, int) {
	if n != 1 && n != 3 && n != 5 {
		return nil, 1
	}
	p := &plain{}
	for id := range n {
		noughts := []int{}
		for range n {
			noughts = append(noughts, 0)
		}
		p.all = append(p.all, api.Replica{ID: id, N: n, Acked: noughts, BestView: -1})
		p.runs = append(p.runs, true)
	}
	return p, 0
}

func (p *plain) there(i int) bool { return 0 <= i && i < len(p.all) }

func (p *plain) onNet(k int) bool { return 0 <= k && k < len(p.net) }

// send puts messages under way while there are fewer than 400.
func (p *plain) send(out []api.Message) {
	p.sent = out
	for _, m := range out {
		if len(p.net) < 400 {
			p.net = append(p.net, messageOf(m))
		}
	}
}

// none tells the error of one that there is not, or that does not run.
func (p *plain) none(i int) int {
	if !p.there(i) {
		return 20
	}
	if !p.runs[i] {
		return 19
	}
	return 0
}

func (p *plain) propose(i, time int, data string) (int, int) {
	if e := p.none(i); e != 0 {
		return 0, e
	}
	next, out, place, e := replica.Propose(p.all[i], time, data)
	if e != 0 {
		return 0, int(e)
	}
	p.all[i] = next
	p.send(out)
	return place, 0
}

func (p *plain) suspect(i int) int {
	if e := p.none(i); e != 0 {
		return e
	}
	next, out, e := replica.Suspect(p.all[i])
	if e != 0 {
		return int(e)
	}
	p.all[i] = next
	p.send(out)
	return 0
}

func (p *plain) crash(i int) int {
	if e := p.none(i); e != 0 {
		return e
	}
	p.runs[i] = false
	return 0
}

func (p *plain) start(i int) int {
	if !p.there(i) {
		return 20
	}
	if p.runs[i] {
		return 12
	}
	r := &p.all[i]
	r.Votes, r.Voters, r.Best, r.BestView, r.BestDone = nil, nil, nil, -1, 0
	if r.How == 1 {
		r.Votes = []int{r.ID}
	}
	for k := range r.Acked {
		r.Acked[k] = 0
	}
	r.Acked[r.ID] = len(r.Log)
	p.runs[i] = true
	return 0
}

// lose takes the message at k from the list.
func (p *plain) lose(k int) int {
	if !p.onNet(k) {
		return 20
	}
	var rest []api.Message
	for at, m := range p.net {
		if at != k {
			rest = append(rest, m)
		}
	}
	p.net = rest
	return 0
}

func (p *plain) deliver(k int) int {
	if !p.onNet(k) {
		return 20
	}
	m := p.net[k]
	p.lose(k)
	if !p.there(m.To) || !p.runs[m.To] {
		return 0
	}
	next, out, e := replica.Take(p.all[m.To], m)
	if e != 0 {
		return int(e)
	}
	p.all[m.To] = next
	p.send(out)
	return 0
}

func (p *plain) double(k int) int {
	if !p.onNet(k) {
		return 20
	}
	p.send([]api.Message{p.net[k]})
	p.sent = nil
	return 0
}

// replicaOf and messageOf tell the same in other memory.
func replicaOf(r api.Replica) api.Replica {
	r.Log, r.Best = slices.Clone(r.Log), slices.Clone(r.Best)
	r.Acked, r.Votes, r.Voters = slices.Clone(r.Acked), slices.Clone(r.Votes), slices.Clone(r.Voters)
	return r
}

func messageOf(m api.Message) api.Message {
	m.Log = slices.Clone(m.Log)
	return m
}

func (p *plain) other() *plain {
	o := &plain{runs: slices.Clone(p.runs)}
	for _, r := range p.all {
		o.all = append(o.all, replicaOf(r))
	}
	for _, m := range p.net {
		o.net = append(o.net, messageOf(m))
	}
	return o
}

// text tells all of a thing; a nil list and an empty one are told alike.
func text(of any) string { return fmt.Sprintf("%+v", of) }

// sameReplica and sameNet hold all of two things against each other; a nil list and an empty one are one.
func sameReplica(a, b api.Replica) bool {
	return a.ID == b.ID && a.N == b.N && a.View == b.View && a.Normal == b.Normal && a.How == b.How && a.Commit == b.Commit &&
		a.BestView == b.BestView && a.BestDone == b.BestDone && slices.Equal(a.Log, b.Log) && slices.Equal(a.Best, b.Best) &&
		slices.Equal(a.Acked, b.Acked) && slices.Equal(a.Votes, b.Votes) && slices.Equal(a.Voters, b.Voters)
}

func sameNet(a, b []api.Message) bool {
	return slices.EqualFunc(a, b, func(x, y api.Message) bool {
		return x.Kind == y.Kind && x.From == y.From && x.To == y.To && x.View == y.View && x.Index == y.Index &&
			x.Commit == y.Commit && x.Normal == y.Normal && slices.Equal(x.Log, y.Log)
	})
}

// both is a group, and what it must be.
type both struct {
	t    *testing.T
	name string
	g    *Group
	p    *plain
}

// begin makes both of n.
func begin(t *testing.T, name string, n int) *both {
	t.Helper()
	g, e := New(n)
	p, want := newByWords(n)
	if int(e) != want || g == nil {
		t.Fatalf("%s: New(%d): error %d, not %d", name, n, e, want)
	}
	b := &both{t, name, g, p}
	b.same("New")
	return b
}

// same holds all of the group against what it must be.
func (b *both) same(what string) {
	b.t.Helper()
	if b.g.Under() != len(b.p.net) {
		b.t.Fatalf("%s: %s: %d under way, not %d", b.name, what, b.g.Under(), len(b.p.net))
	}
	for i, want := range b.p.all {
		r, e := b.g.Replica(i)
		if e != api.OK || !sameReplica(r, want) {
			b.t.Fatalf("%s: %s: replica %d: error %d\ngot  %+v\nwant %+v", b.name, what, i, e, r, want)
		}
		if b.g.Runs(i) != b.p.runs[i] {
			b.t.Fatalf("%s: %s: replica %d runs: %v", b.name, what, i, b.g.Runs(i))
		}
	}
	for _, i := range []int{-1, len(b.p.all)} {
		if r, e := b.g.Replica(i); e != 20 || !sameReplica(r, api.Replica{}) || b.g.Runs(i) {
			b.t.Fatalf("%s: %s: there is a replica %d: %+v, error %d", b.name, what, i, r, e)
		}
	}
	if !sameNet(b.g.net, b.p.net) {
		b.t.Fatalf("%s: %s: under way are\n%+v\nnot\n%+v", b.name, what, b.g.net, b.p.net)
	}
}

// held holds an error, and all behind the call, against what they must be, and tells the error.
func (b *both) held(what string, e api.Errno, want int) int {
	b.t.Helper()
	if int(e) != want {
		b.t.Fatalf("%s: %s: error %d, not %d", b.name, what, e, want)
	}
	b.same(what)
	return want
}

func (b *both) propose(i, time int, data string) int {
	b.t.Helper()
	what := fmt.Sprintf("Propose(%d, %d, %d bytes)", i, time, len(data))
	b.p.sent = nil
	place, e := b.g.Propose(i, time, data)
	wantPlace, want := b.p.propose(i, time, data)
	if place != wantPlace {
		b.t.Fatalf("%s: %s: place %d, not %d", b.name, what, place, wantPlace)
	}
	return b.held(what, e, want)
}

func (b *both) suspect(i int) int {
	b.t.Helper()
	b.p.sent = nil
	return b.held(fmt.Sprintf("Suspect(%d)", i), b.g.Suspect(i), b.p.suspect(i))
}

func (b *both) crash(i int) int {
	b.t.Helper()
	b.p.sent = nil
	return b.held(fmt.Sprintf("Crash(%d)", i), b.g.Crash(i), b.p.crash(i))
}

func (b *both) start(i int) int {
	b.t.Helper()
	b.p.sent = nil
	return b.held(fmt.Sprintf("Start(%d)", i), b.g.Start(i), b.p.start(i))
}

func (b *both) deliver(k int) int {
	b.t.Helper()
	b.p.sent = nil
	return b.held(fmt.Sprintf("Deliver(%d)", k), b.g.Deliver(k), b.p.deliver(k))
}

func (b *both) drop(k int) int {
	b.t.Helper()
	b.p.sent = nil
	return b.held(fmt.Sprintf("Drop(%d)", k), b.g.Drop(k), b.p.lose(k))
}

func (b *both) double(k int) int {
	b.t.Helper()
	b.p.sent = nil
	return b.held(fmt.Sprintf("Double(%d)", k), b.g.Double(k), b.p.double(k))
}

// copy makes both of the copies.
func (b *both) copy() *both {
	b.t.Helper()
	other := &both{b.t, b.name + ", a copy", b.g.Copy(), b.p.other()}
	if other.g == nil || other.g == b.g {
		b.t.Fatalf("%s: Copy is no other one", b.name)
	}
	other.same("Copy")
	b.same("Copy of it")
	return other
}

// all lets all messages come in order, until nothing is under way.
func (b *both) all() {
	b.t.Helper()
	for range 20000 {
		if b.g.Under() == 0 {
			return
		}
		if e := b.deliver(0); e != 0 {
			b.t.Fatalf("%s: Deliver(0): error %d", b.name, e)
		}
	}
	b.t.Fatalf("%s: %d messages are under way for ever", b.name, b.g.Under())
}
