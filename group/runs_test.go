package group

import (
	"fmt"
	"math/rand"
	"slices"
	"testing"

	"falsework/api"
	"falsework/replica"
)

// watch holds for ever what must hold of a group, whatever befalls it.
type watch struct {
	*both
	was    []api.Replica
	done   []api.Entry         // what was committed anywhere
	views  []int               // of each entry of done, the view in which it first was
	acked  map[int][]int       // of each view, how far each one has acknowledged
	logs   map[int][]api.Entry // of each view, the last log of its primary
	counts map[string]int
}

func watched(t *testing.T, name string, n int) *watch {
	t.Helper()
	w := &watch{both: begin(t, name, n), acked: map[int][]int{}, logs: map[int][]api.Entry{}, counts: map[string]int{}}
	w.was = w.replicas()
	return w
}

func (w *watch) replicas() []api.Replica {
	var all []api.Replica
	for i := range w.p.all {
		r, e := w.g.Replica(i)
		if e != api.OK {
			w.t.Fatal(w.name, "Replica", i, e)
		}
		all = append(all, r)
	}
	return all
}

// look holds what all of them are now against what they were.
func (w *watch) look(what string) {
	w.t.Helper()
	now := w.replicas()
	for i, r := range now {
		if !replica.May(r) {
			w.t.Fatalf("%s: %s: may not be: %+v", w.name, what, r)
		}
		if r.View < w.was[i].View || r.Commit < w.was[i].Commit || r.Normal < w.was[i].Normal {
			w.t.Fatalf("%s: %s: falls\nfrom %+v\nto   %+v", w.name, what, w.was[i], r)
		}
		if r.View > w.was[i].View {
			w.counts["view"]++
		}
		w.committed(r, what)
	}
	w.acknowledged(now)
	for _, r := range now {
		if r.How == api.IsNormal && r.View%r.N == r.ID {
			w.leads(r, what)
		}
	}
	w.was = now
	w.counts[what]++
}

// committed: logs agree as far as both have committed.
func (w *watch) committed(r api.Replica, what string) {
	w.t.Helper()
	common := min(len(w.done), r.Commit)
	if !slices.Equal(r.Log[:common], w.done[:common]) {
		w.t.Fatalf("%s: %s: %+v does not agree with %v", w.name, what, r, w.done)
	}
	for _, entry := range r.Log[common:r.Commit] {
		w.done, w.views = append(w.done, entry), append(w.views, r.View)
		w.counts["committed"]++
	}
}

// acknowledged counts how far each has acknowledged in each view, and keeps the logs of primaries.
func (w *watch) acknowledged(now []api.Replica) {
	note := func(view, id, n int) {
		if w.acked[view] == nil {
			w.acked[view] = make([]int, len(now))
		}
		w.acked[view][id] = max(w.acked[view][id], n)
	}
	for _, m := range w.p.sent {
		if m.Kind == api.MsgPrepared {
			note(m.View, m.From, m.Index)
		}
	}
	for _, r := range now {
		if r.How == api.IsNormal && r.View%r.N == r.ID {
			note(r.View, r.ID, len(r.Log))
			w.logs[r.View] = slices.Clone(r.Log)
		}
	}
}

// leads: what was committed anywhere, and what most have acknowledged, in a view is in the log of r, the primary of a later one.
func (w *watch) leads(r api.Replica, what string) {
	w.t.Helper()
	for at, view := range w.views {
		if r.View > view && (len(r.Log) <= at || r.Log[at] != w.done[at]) {
			w.t.Fatalf("%s: %s: %v was committed in view %d, but %+v leads", w.name, what, w.done[at], view, r)
		}
	}
	for view, acked := range w.acked {
		reach := slices.Sorted(slices.Values(acked))[r.N/2]
		if r.View > view && (len(r.Log) < reach || !slices.Equal(r.Log[:reach], w.logs[view][:reach])) {
			w.t.Fatalf("%s: %s: most have acknowledged %d of %v in view %d, but %+v leads", w.name, what, reach, w.logs[view], view, r)
		}
	}
}

// place draws a place of the net, mostly near its beginning, at times one that there is not.
func (w *watch) place(d *rand.Rand) int {
	under := w.g.Under()
	switch d.Intn(8) {
	case 0:
		return d.Intn(under+3) - 1
	case 1, 2:
		return d.Intn(under + 1)
	}
	return d.Intn(min(under, 3) + 1)
}

// befall lets something befall the group, by chance; the higher bad, the more often what is bad.
func (w *watch) befall(d *rand.Rand, bad, step int) {
	w.t.Helper()
	n := len(w.p.all)
	i, k := d.Intn(n), w.place(d)
	if d.Intn(60) == 0 {
		i = []int{-1, n}[d.Intn(2)]
	}
	what, e := "", 0
	switch chance := d.Intn(100); {
	case chance < bad:
		what, e = "Suspect", w.suspect(i)
	case chance < 2*bad:
		what, e = "Crash", w.crash(i)
	case chance < 5*bad:
		what, e = "Start", w.start(i)
	case chance < 6*bad:
		what, e = "Drop", w.drop(k)
	case chance < 7*bad && w.g.Under() < 80:
		what, e = "Double", w.double(k)
	case chance > 80:
		what, e = "Propose", w.propose(i, d.Intn(step+5)-1, fmt.Sprint(step))
	default:
		what, e = "Deliver", w.deliver(k)
	}
	if e != 0 {
		what = fmt.Sprintf("%s: error %d", what, e)
	}
	w.look(what)
}

func TestDrawnRuns(t *testing.T) {
	d := rand.New(rand.NewSource(1203))
	counts := map[string]int{}
	for run := range 300 {
		n := []int{3, 3, 5, 5, 1}[run%5]
		bad := []int{1, 2, 4, 8}[d.Intn(4)]
		w := watched(t, fmt.Sprintf("run %d of %d", run, n), n)
		for step := range 300 {
			w.befall(d, bad, step)
		}
		for what, k := range w.counts {
			counts[what] += k
		}
	}
	for what, least := range map[string]int{
		"Propose": 500, "Suspect": 500, "Crash": 500, "Start": 500, "Deliver": 5000, "Drop": 300, "Double": 300,
		"committed": 300, "view": 1000,
		"Propose: error 1": 10, "Propose: error 17": 500, "Propose: error 19": 500, "Propose: error 20": 10,
		"Suspect: error 19": 100, "Suspect: error 20": 5, "Crash: error 19": 100, "Crash: error 20": 5,
		"Start: error 12": 500, "Start: error 20": 20, "Deliver: error 20": 500, "Drop: error 20": 20, "Double: error 20": 20,
	} {
		if counts[what] < least {
			t.Errorf("%s came %d times", what, counts[what])
		}
	}
}

// Behind whatever befell, once nothing does any more and one suspects, all come to have one log, all of it committed.
func TestCalmBehindRuns(t *testing.T) {
	d := rand.New(rand.NewSource(1204))
	for run := range 100 {
		n := []int{3, 5, 1}[run%3]
		w := watched(t, fmt.Sprintf("run %d of %d", run, n), n)
		for step := range 150 {
			w.befall(d, 1+d.Intn(4), step)
		}
		last := 0
		for i := range n {
			w.start(i)
			w.look("Start")
		}
		w.calm()
		for i, r := range w.was {
			if r.View > w.was[last].View {
				last = i
			}
		}
		view := w.was[last].View + 1
		w.suspect(last)
		w.calm()
		if e := w.propose(view%n, 0, "last"); e != 0 {
			t.Fatalf("%s: %d does not lead view %d: error %d", w.name, view%n, view, e)
		}
		w.calm()
		for _, r := range w.was {
			if r.View != view || r.How != api.IsNormal || r.Commit != len(r.Log) || !slices.Equal(r.Log, w.done) || r.Log[r.Commit-1].Data != "last" {
				t.Fatalf("%s: %+v, but all have %v", w.name, r, w.done)
			}
		}
	}
}

// calm lets all messages come in order, until nothing is under way.
func (w *watch) calm() {
	w.t.Helper()
	for range 20000 {
		if w.g.Under() == 0 {
			w.look("calm")
			return
		}
		w.deliver(0)
		w.look("calm")
	}
	w.t.Fatalf("%s: %d messages are under way for ever", w.name, w.g.Under())
}

// Where nothing is lost, what a primary takes is committed everywhere when all is delivered, in whatever order, and however often.
func TestNothingLost(t *testing.T) {
	d := rand.New(rand.NewSource(1205))
	for run := range 150 {
		n := []int{1, 3, 5}[run%3]
		w := watched(t, fmt.Sprintf("run %d of %d", run, n), n)
		var took []api.Entry
		at := 0
		for step := range 100 {
			time := d.Intn(100)
			switch chance := d.Intn(10); {
			case chance < 2 && w.g.Under() < 300:
				if e := w.propose(0, time, fmt.Sprint(step)); e != 0 {
					t.Fatal(w.name, "Propose", e)
				}
				at = max(at+1, time, 1)
				took = append(took, api.Entry{Time: at, Data: fmt.Sprint(step)})
			case chance < 3 && w.g.Under() < 300:
				w.double(w.place(d))
			default:
				w.deliver(w.place(d))
			}
			w.look("nothing lost")
		}
		for w.g.Under() > 0 {
			w.deliver(d.Intn(w.g.Under()))
			w.look("nothing lost")
		}
		for i, r := range w.was {
			if r.Commit != len(took) || !slices.Equal(r.Log, took) || r.View != 0 {
				t.Fatalf("%s: replica %d: %+v, but the primary took %v", w.name, i, r, took)
			}
		}
	}
}

// The same while another one leads: nothing is lost behind one doubt.
func TestNothingLostInLaterViews(t *testing.T) {
	for _, n := range []int{1, 3, 5} {
		w := watched(t, fmt.Sprint("later views of ", n), n)
		var took []api.Entry
		for view := range 12 {
			for k := range 3 {
				entry := api.Entry{Time: 10*len(took) + 10, Data: fmt.Sprint(view, " ", k)}
				if e := w.propose(view%n, entry.Time, entry.Data); e != 0 {
					t.Fatalf("%s: %d does not lead: error %d", w.name, view%n, e)
				}
				took = append(took, entry)
			}
			w.calm()
			for i, r := range w.was {
				if r.Commit != len(took) || !slices.Equal(r.Log, took) || r.View != view {
					t.Fatalf("%s: replica %d: %+v, but primaries took %v", w.name, i, r, took)
				}
			}
			w.suspect((view * 3) % n)
			w.calm()
		}
	}
}

// With fewer than half of them down, what is taken is committed, and there behind all crashes (12.3).
func TestFewerThanHalfDown(t *testing.T) {
	for _, n := range []int{3, 5} {
		w := watched(t, fmt.Sprint("few down of ", n), n)
		for view := range 4 * n {
			down := []int{(view + 1) % n}
			if n == 5 {
				down = append(down, (view+3)%n)
			}
			for _, i := range down {
				w.crash(i)
			}
			if e := w.propose(view%n, 0, fmt.Sprint("of view ", view)); e != 0 {
				t.Fatalf("%s: %d does not lead: error %d", w.name, view%n, e)
			}
			w.calm()
			if len(w.done) != view+1 || w.done[view].Data != fmt.Sprint("of view ", view) {
				t.Fatalf("%s: committed are %v", w.name, w.done)
			}
			for _, i := range down {
				w.start(i)
				w.look("Start")
			}
			// The next primary was down, and has not all: a change of the view gives it what it lacks.
			w.suspect(view % n)
			w.calm()
		}
	}
}

// Copies made under way go on by themselves; what is called of one changes nothing of another.
func TestDrawnCopies(t *testing.T) {
	d := rand.New(rand.NewSource(1206))
	for run := range 40 {
		n := []int{1, 3, 5}[run%3]
		all := []*watch{watched(t, fmt.Sprintf("run %d of %d", run, n), n)}
		for step := range 120 {
			w := all[d.Intn(len(all))]
			w.befall(d, 4, step)
			for _, other := range all {
				other.same("what befell another one")
			}
			if d.Intn(20) == 0 && len(all) < 5 {
				other := &watch{both: w.copy(), was: w.replicas(), done: slices.Clone(w.done), views: slices.Clone(w.views), acked: map[int][]int{}, logs: map[int][]api.Entry{}, counts: map[string]int{}}
				all = append(all, other)
			}
		}
	}
}

// A primary that most have left goes on alone: what it then takes is not committed, and goes when it hears of the others.
func TestOldPrimary(t *testing.T) {
	w := watched(t, "an old primary", 3)
	w.propose(0, 5, "kept")
	w.calm()
	w.propose(0, 6, "lost")
	w.drop(0)
	w.drop(0)
	w.suspect(1)
	for w.g.Under() > 0 {
		if w.p.net[0].To == 0 {
			w.drop(0)
			continue
		}
		w.deliver(0)
		w.look("without 0")
	}
	if w.propose(0, 7, "lost too") != 0 || w.propose(1, 9, "new") != 0 {
		t.Fatal("both lead, each in its view")
	}
	w.look("Propose")
	w.calm()
	for _, r := range w.was {
		if r.View != 1 || r.Commit != 2 || !slices.Equal(r.Log, []api.Entry{{Time: 5, Data: "kept"}, {Time: 9, Data: "new"}}) {
			t.Errorf("%+v", r)
		}
	}
}
