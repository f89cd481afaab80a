package replica

import (
	"fmt"
	"math/rand"
	"slices"
	"testing"

	"falsework/api"
)

// several are replicas that run or not, the messages between them, and what must hold of them for ever.
type several struct {
	t      *testing.T
	name   string
	all    []api.Replica
	runs   []bool
	net    []api.Message
	done   []api.Entry         // what was committed anywhere
	acked  map[int][]int       // of each view, how far each one has acknowledged
	logs   map[int][]api.Entry // of each view, the longest log of its primary
	counts map[string]int
}

func begin(t *testing.T, name string, n int) *several {
	s := &several{t: t, name: name, acked: map[int][]int{}, logs: map[int][]api.Entry{}, counts: map[string]int{}}
	for id := range n {
		r, e := New(id, n)
		if e != api.OK {
			t.Fatal(name, "New", e)
		}
		s.all, s.runs = append(s.all, r), append(s.runs, true)
	}
	return s
}

// put lets replica i be next, and sends out.
func (s *several) put(i int, what string, next api.Replica, out []api.Message) {
	s.t.Helper()
	was := s.all[i]
	if !May(next) || !mayByWords(next) {
		s.t.Fatalf("%s: %s: may not be: %s", s.name, what, text(next))
	}
	if next.View < was.View || next.Normal < was.Normal || next.Commit < was.Commit {
		s.t.Fatalf("%s: %s: falls\nfrom %s\nto   %s", s.name, what, text(was), text(next))
	}
	s.all[i] = next
	s.net = append(s.net, out...)
	s.committed(i, what)
	s.acknowledged(i, out)
	s.ofLaterPrimary(i, what)
	s.counts[what]++
	if next.Commit > was.Commit {
		s.counts["committed"]++
	}
	if next.View > was.View {
		s.counts["view"]++
	}
}

// committed holds the log of i up to Commit against what was committed anywhere.
func (s *several) committed(i int, what string) {
	s.t.Helper()
	r := s.all[i]
	both := min(len(s.done), r.Commit)
	if !slices.Equal(r.Log[:both], s.done[:both]) {
		s.t.Fatalf("%s: %s: %s does not agree with %v", s.name, what, text(r), s.done)
	}
	if r.Commit > both {
		s.done = slices.Clone(r.Log[:r.Commit])
	}
}

// acknowledged counts what i has acknowledged, and what its log is while it is the primary.
func (s *several) acknowledged(i int, out []api.Message) {
	r := s.all[i]
	note := func(view, n int) {
		if s.acked[view] == nil {
			s.acked[view] = make([]int, r.N)
		}
		s.acked[view][i] = max(s.acked[view][i], n)
	}
	for _, m := range out {
		if m.Kind == api.MsgPrepared {
			note(m.View, m.Index)
		}
	}
	if r.How == api.IsNormal && r.View%r.N == r.ID {
		note(r.View, len(r.Log))
		s.logs[r.View] = slices.Clone(r.Log)
	}
}

// ofLaterPrimary: what most have acknowledged in a view is in the log of i, if it is the primary of a later one.
func (s *several) ofLaterPrimary(i int, what string) {
	s.t.Helper()
	r := s.all[i]
	if r.How != api.IsNormal || r.View%r.N != r.ID {
		return
	}
	for view, acked := range s.acked {
		if view >= r.View {
			continue
		}
		reach := slices.Sorted(slices.Values(acked))[r.N/2]
		if len(r.Log) < reach || len(s.logs[view]) < reach || !slices.Equal(r.Log[:reach], s.logs[view][:reach]) {
			s.t.Fatalf("%s: %s: most have acknowledged %d of %v in view %d, but %s", s.name, what, reach, s.logs[view], view, text(r))
		}
	}
}

func (s *several) propose(i, time int, data string) {
	s.t.Helper()
	next, out, place, e := Propose(s.all[i], time, data)
	want, wantOut, wantPlace, wantE := proposeByWords(s.all[i], time, data)
	told(s.t, s.name+": Propose", next, out, e, want, wantOut, api.Errno(wantE))
	if place != wantPlace {
		s.t.Fatal(s.name, "place", place, wantPlace)
	}
	if e == api.OK {
		s.put(i, "Propose", next, out)
	}
}

func (s *several) suspect(i int) {
	s.t.Helper()
	next, out, e := Suspect(s.all[i])
	want, wantOut, wantE := suspectByWords(s.all[i])
	told(s.t, s.name+": Suspect", next, out, e, want, wantOut, api.Errno(wantE))
	s.put(i, "Suspect", next, out)
}

func (s *several) crash(i int) { s.runs[i] = false }

func (s *several) start(i int) {
	s.t.Helper()
	next, e := Restart(s.all[i])
	want, wantE := restartByWords(s.all[i])
	told(s.t, s.name+": Restart", next, nil, e, want, nil, api.Errno(wantE))
	s.put(i, "Restart", next, nil)
	s.runs[i] = true
}

// deliver lets the message at k come; one that comes to a replica that does not run is lost.
func (s *several) deliver(k int) {
	s.t.Helper()
	m := s.net[k]
	s.net = slices.Delete(s.net, k, k+1)
	if !s.runs[m.To] {
		return
	}
	next, out, e := Take(s.all[m.To], m)
	want, wantOut, wantE := takeByWords(s.all[m.To], m)
	told(s.t, fmt.Sprintf("%s: %s takes %+v", s.name, text(s.all[m.To]), m), next, out, e, want, wantOut, api.Errno(wantE))
	if e != api.OK {
		s.t.Fatalf("%s: %+v: error %d", s.name, m, e)
	}
	s.put(m.To, fmt.Sprint("kind ", m.Kind), next, out)
}

// befall lets something befall them, by chance; the higher bad, the more often what is bad.
func (s *several) befall(d *rand.Rand, bad, step int) {
	s.t.Helper()
	i := d.Intn(len(s.all))
	k := 0
	if len(s.net) > 0 {
		k = d.Intn(len(s.net))
		if d.Intn(2) == 0 {
			k = d.Intn(min(3, len(s.net)))
		}
	}
	switch n := d.Intn(100); {
	case n < bad && s.runs[i]:
		s.suspect(i)
	case n < 2*bad && s.runs[i]:
		s.crash(i)
	case n < 5*bad && !s.runs[i]:
		s.start(i)
	case n < 6*bad && len(s.net) > 0:
		s.net = slices.Delete(s.net, k, k+1)
	case n < 7*bad && len(s.net) > 0 && len(s.net) < 60:
		s.net = append(s.net, s.net[k])
	case n > 85 && s.runs[i]:
		s.propose(i, d.Intn(step+5), fmt.Sprint(step))
	case len(s.net) > 0:
		s.deliver(k)
	}
}

// calm lets all of them run, and all messages come in order, until nothing is under way.
func (s *several) calm() {
	s.t.Helper()
	for i := range s.all {
		if !s.runs[i] {
			s.start(i)
		}
	}
	for range 5000 {
		if len(s.net) == 0 {
			return
		}
		s.deliver(0)
	}
	s.t.Fatalf("%s: %d messages are under way for ever", s.name, len(s.net))
}

func TestDrawnRuns(t *testing.T) {
	d := rand.New(rand.NewSource(1107))
	counts := map[string]int{}
	for run := range 600 {
		n := []int{3, 3, 5, 5, 1}[run%5]
		bad := []int{1, 2, 4, 8}[d.Intn(4)]
		s := begin(t, fmt.Sprintf("run %d of %d", run, n), n)
		for step := range 300 {
			s.befall(d, bad, step)
		}
		for what, k := range s.counts {
			counts[what] += k
		}
		counts["done"] += len(s.done)
	}
	for kind := api.MsgPrepare; kind <= api.MsgLog; kind++ {
		if k := counts[fmt.Sprint("kind ", kind)]; k < 500 {
			t.Errorf("kind %d was taken %d times", kind, k)
		}
	}
	for _, what := range []string{"Propose", "Suspect", "Restart", "committed", "view", "done"} {
		if counts[what] < 500 {
			t.Errorf("%s came %d times", what, counts[what])
		}
	}
}

// Behind whatever befell, once nothing befalls any more and one suspects, all come to have one log, all of it committed.
func TestCalmBehindRuns(t *testing.T) {
	d := rand.New(rand.NewSource(1108))
	for run := range 200 {
		n := []int{3, 5}[run%2]
		s := begin(t, fmt.Sprintf("run %d of %d", run, n), n)
		for step := range 200 {
			s.befall(d, 1+d.Intn(4), step)
		}
		s.calm()
		highest := s.all[0]
		for _, r := range s.all {
			if r.View > highest.View {
				highest = r
			}
		}
		s.suspect(highest.ID)
		s.calm()
		view := highest.View + 1
		p := view % n
		if r := s.all[p]; r.View != view || r.How != api.IsNormal {
			t.Fatalf("%s: %s does not lead view %d", s.name, text(r), view)
		}
		s.propose(p, 0, "last")
		s.calm()
		for _, r := range s.all {
			if r.View != view || r.How != api.IsNormal || r.Commit != len(r.Log) || !slices.Equal(r.Log, s.done) || r.Log[r.Commit-1].Data != "last" {
				t.Fatalf("%s: %s, but all have %v", s.name, text(r), s.done)
			}
		}
	}
}

// What comes to all, in order, is committed by all.
func TestRunWithoutFaults(t *testing.T) {
	for _, n := range []int{1, 3, 5} {
		s := begin(t, fmt.Sprint("of ", n), n)
		for i := range 5 {
			s.propose(0, 10*i, fmt.Sprint(i))
			s.calm()
		}
		want := []api.Entry{{Time: 1, Data: "0"}, {Time: 10, Data: "1"}, {Time: 20, Data: "2"}, {Time: 30, Data: "3"}, {Time: 40, Data: "4"}}
		for _, r := range s.all {
			if r.Commit != 5 || !slices.Equal(r.Log, want) || r.View != 0 {
				t.Errorf("%s: %s", s.name, text(r))
			}
		}
	}
}

// A primary that most have left goes on alone: what it then puts in is not committed, and goes when it hears of the others.
func TestOldPrimary(t *testing.T) {
	s := begin(t, "an old primary", 3)
	s.propose(0, 5, "kept")
	s.calm()
	s.propose(0, 6, "lost")
	s.net = nil
	s.suspect(1)
	for len(s.net) > 0 {
		if s.net[0].To == 0 {
			s.net = s.net[1:]
			continue
		}
		s.deliver(0)
	}
	if r := s.all[1]; r.View != 1 || r.How != api.IsNormal || len(r.Log) != 1 {
		t.Fatal("1 does not lead:", text(r))
	}
	s.propose(0, 7, "lost too")
	s.propose(1, 9, "new")
	s.calm()
	for _, r := range s.all {
		if r.View != 1 || r.Commit != 2 || !slices.Equal(r.Log, []api.Entry{{Time: 5, Data: "kept"}, {Time: 9, Data: "new"}}) {
			t.Error(text(r))
		}
	}
}
