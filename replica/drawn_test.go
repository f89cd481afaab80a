package replica

import (
	"fmt"
	"math/rand"
	"slices"
	"testing"

	"falsework/api"
)

const junk = -77

// roomyInts and roomyEntries make lists with spare room, in which something stands.
func roomyInts(l []int) []int {
	all := append(slices.Clone(l), junk, junk, junk)
	return all[:len(l)]
}

func roomyEntries(l []api.Entry) []api.Entry {
	all := append(slices.Clone(l), api.Entry{Time: junk, Data: "junk"}, api.Entry{Time: junk, Data: "junk"})
	return all[:len(l)]
}

func roomy(r api.Replica) api.Replica {
	r.Log, r.Best = roomyEntries(r.Log), roomyEntries(r.Best)
	r.Acked, r.Votes, r.Voters = roomyInts(r.Acked), roomyInts(r.Votes), roomyInts(r.Voters)
	return r
}

// room tells all that stands in the room of r's lists.
func room(r api.Replica) string {
	return fmt.Sprint(r, r.Log[:cap(r.Log)], r.Best[:cap(r.Best)], r.Acked[:cap(r.Acked)], r.Votes[:cap(r.Votes)], r.Voters[:cap(r.Voters)])
}

// spoils makes functions each of which writes into all the room of one list of an answer.
func spoils(r *api.Replica, out []api.Message) []func() {
	var all []func()
	for _, l := range []*[]int{&r.Acked, &r.Votes, &r.Voters} {
		all = append(all, func() { spoil(*l, -999) })
	}
	logs := []*[]api.Entry{&r.Log, &r.Best}
	for i := range out {
		logs = append(logs, &out[i].Log)
	}
	for _, l := range logs {
		all = append(all, func() { spoil(*l, api.Entry{Time: -999, Data: "spoilt"}) })
	}
	return append(all, func() { spoil(out, api.Message{Kind: -999}) })
}

func spoil[E any](l []E, with E) {
	l = l[:cap(l)]
	for i := range l {
		l[i] = with
	}
}

// apart fails where two lists of an answer, or one of them and one that was handed in, have memory in common.
func apart(t *testing.T, name string, r api.Replica, out []api.Message, given ...[]api.Entry) {
	t.Helper()
	seen := map[*api.Entry]int{}
	note := func(what int, l []api.Entry) {
		l = l[:cap(l)]
		for i := range l {
			if was, ok := seen[&l[i]]; ok {
				t.Fatalf("%s: lists %d and %d have memory in common", name, was, what)
			}
			seen[&l[i]] = what
		}
	}
	note(0, r.Log)
	note(1, r.Best)
	for i, m := range out {
		note(2+i, m.Log)
	}
	for i, l := range given {
		note(-1-i, l)
	}
	ints := map[*int]int{}
	for what, l := range [][]int{r.Acked, r.Votes, r.Voters} {
		l = l[:cap(l)]
		for i := range l {
			if was, ok := ints[&l[i]]; ok {
				t.Fatalf("%s: numbers %d and %d have memory in common", name, was, what)
			}
			ints[&l[i]] = what
		}
	}
}

// drawLog draws a log of up to n entries; most Times are such that logs overlap or just do not.
func drawLog(d *rand.Rand, n int) []api.Entry {
	l := []api.Entry{}
	at := 0
	for range d.Intn(n + 1) {
		at += 1 + d.Intn(2)
		l = append(l, api.Entry{Time: at, Data: string(rune('a' + d.Intn(2)))})
	}
	return l
}

func drawIDs(d *rand.Rand, n int) []int {
	var ids []int
	for id := range n {
		if d.Intn(3) == 0 {
			ids = append(ids, id)
		}
	}
	return ids
}

// drawReplica draws one that may be, of all sorts.
func drawReplica(d *rand.Rand) api.Replica {
	n := []int{1, 3, 3, 3, 5, 5, 5}[d.Intn(7)]
	r := api.Replica{ID: d.Intn(n), N: n, View: d.Intn(9), How: d.Intn(3), Log: drawLog(d, 4)}
	if d.Intn(3) == 0 {
		r.View = r.ID + n*d.Intn(2)
	}
	r.Normal = r.View
	if r.How != api.IsNormal {
		r.Normal = d.Intn(r.View + 1)
	}
	r.Commit = d.Intn(len(r.Log) + 1)
	for range n {
		r.Acked = append(r.Acked, d.Intn(len(r.Log)+1))
	}
	r.Votes, r.Voters, r.Best = drawIDs(d, n), drawIDs(d, n), drawLog(d, 4)
	r.BestView, r.BestDone = d.Intn(10)-1, d.Intn(len(r.Best)+1)
	return r
}

// drawMessage draws one for r; most of them may come.
func drawMessage(d *rand.Rand, r api.Replica) api.Message {
	m := api.Message{Kind: 1 + d.Intn(8), From: d.Intn(r.N), To: r.ID, View: max(0, r.View+d.Intn(5)-1), Index: d.Intn(7), Commit: d.Intn(7), Normal: d.Intn(10), Log: drawLog(d, 5)}
	if d.Intn(2) == 0 {
		m.View = r.View
	}
	if d.Intn(2) == 0 && m.Kind != api.MsgPrepared {
		m.From = m.View % r.N
	}
	if m.Kind == api.MsgPrepare && len(m.Log) != 1 && d.Intn(20) > 0 {
		m.Index, m.Log = len(r.Log)+d.Intn(3), entries(1+d.Intn(9))
	}
	if m.Kind == api.MsgLog && d.Intn(2) == 0 && len(m.Log) > 0 {
		for i := range m.Log {
			m.Log[i].Time += d.Intn(2) * 3
		}
		slices.SortFunc(m.Log, func(a, b api.Entry) int { return a.Time - b.Time })
	}
	return m
}

// turnAny breaks something of a replica.
func turnAny(d *rand.Rand, r *api.Replica) {
	for _, l := range []*[]int{&r.Acked, &r.Votes, &r.Voters} {
		if len(*l) > 0 && d.Intn(8) == 0 {
			(*l)[d.Intn(len(*l))] = d.Intn(7) - 1
		}
	}
	for _, l := range []*[]api.Entry{&r.Log, &r.Best} {
		if len(*l) > 0 && d.Intn(8) == 0 {
			(*l)[d.Intn(len(*l))].Time = d.Intn(6)
		}
	}
	for _, n := range []*int{&r.ID, &r.N, &r.View, &r.Normal, &r.How, &r.Commit, &r.BestView, &r.BestDone} {
		if d.Intn(20) == 0 {
			*n += d.Intn(5) - 2
		}
	}
}

func TestDrawnTake(t *testing.T) {
	d := rand.New(rand.NewSource(1101))
	var errors, quiet, loud int
	kinds := map[int]int{}
	for i := range 150000 {
		r := drawReplica(d)
		m := drawMessage(d, r)
		if d.Intn(10) == 0 {
			turnAny(d, &r)
		}
		next, out, e := Take(r, m)
		want, wantOut, wantE := takeByWords(r, m)
		told(t, fmt.Sprintf("%d: %s takes %+v", i, text(r), m), next, out, e, want, wantOut, api.Errno(wantE))
		if May(r) != mayByWords(r) {
			t.Fatalf("%d: May of %s", i, text(r))
		}
		switch {
		case e != api.OK:
			errors++
		case sameReplica(r, next) && len(out) == 0:
			quiet++
		default:
			loud++
			kinds[m.Kind]++
		}
		if e == api.OK && !May(next) {
			t.Fatalf("%d: %s takes %+v and may not be: %s", i, text(r), m, text(next))
		}
	}
	for kind := api.MsgPrepare; kind <= api.MsgLog; kind++ {
		if kinds[kind] < 500 {
			t.Errorf("kind %d did something %d times", kind, kinds[kind])
		}
	}
	if errors < 10000 || quiet < 10000 || loud < 10000 {
		t.Error("few of a sort:", errors, quiet, loud)
	}
}

func TestDrawnOthers(t *testing.T) {
	d := rand.New(rand.NewSource(1102))
	errnos := map[api.Errno]int{}
	for i := range 100000 {
		r := drawReplica(d)
		if d.Intn(3) == 0 {
			r.View = latest - d.Intn(3)
			r.Normal = r.View
		}
		if len(r.Log) > 0 && d.Intn(6) == 0 {
			r.Log[len(r.Log)-1].Time = latest - d.Intn(3)
		}
		if d.Intn(10) == 0 {
			turnAny(d, &r)
		}
		name := fmt.Sprint(i, ": ", text(r))
		time := d.Intn(14) - 1
		if d.Intn(4) == 0 {
			time = api.MaxTime - d.Intn(4)
		}
		next, out, place, e := Propose(r, time, "data")
		want, wantOut, wantPlace, wantE := proposeByWords(r, time, "data")
		told(t, name+" Propose", next, out, e, want, wantOut, api.Errno(wantE))
		if place != wantPlace {
			t.Fatal(name, "place", place, wantPlace)
		}
		errnos[e]++
		next, out, e = Suspect(r)
		want, wantOut, wantE = suspectByWords(r)
		told(t, name+" Suspect", next, out, e, want, wantOut, api.Errno(wantE))
		if e == api.OK && !May(next) {
			t.Fatal(name, "Suspect: may not be", text(next))
		}
		next, e = Restart(r)
		want, wantE = restartByWords(r)
		told(t, name+" Restart", next, nil, e, want, nil, api.Errno(wantE))
		if e == api.OK && !May(next) {
			t.Fatal(name, "Restart: may not be", text(next))
		}
	}
	for _, e := range []api.Errno{api.OK, api.ErrArg, api.ErrPrimary, api.ErrFull} {
		if errnos[e] < 100 {
			t.Errorf("error %d came %d times", e, errnos[e])
		}
	}
}

// call is one of the calls, by a number; those from 3 on take a message.
func call(which int, r api.Replica, m api.Message) (api.Replica, []api.Message, string) {
	switch which {
	case 0:
		next, out, place, e := Propose(r, 5, "x")
		return next, out, fmt.Sprint(place, e)
	case 1:
		next, out, e := Suspect(r)
		return next, out, fmt.Sprint(e)
	case 2:
		next, e := Restart(r)
		return next, nil, fmt.Sprint(e)
	}
	next, out, e := Take(r, m)
	return next, out, fmt.Sprint(e)
}

// What is handed in stays, spare room too, and what is told is memory of its own (R3); the same calls tell the same (R5).
func TestMemory(t *testing.T) {
	d := rand.New(rand.NewSource(1103))
	for i := range 20000 {
		r := drawReplica(d)
		m := drawMessage(d, r)
		if d.Intn(5) == 0 {
			turnAny(d, &r)
		}
		r = roomy(r)
		m.Log = roomyEntries(m.Log)
		which := d.Intn(12)
		name := fmt.Sprint(i, ": call ", which, " of ", text(r), " and ", m)
		before, beforeLog := room(r), fmt.Sprint(m.Log[:cap(m.Log)])
		next, out, others := call(which, r, m)
		if room(r) != before || fmt.Sprint(m.Log[:cap(m.Log)]) != beforeLog {
			t.Fatal(name, "changes what it is handed")
		}
		apart(t, name, next, out, r.Log, r.Best, m.Log)
		again, outAgain, othersAgain := call(which, r, m)
		if !sameReplica(next, again) || !sameMessages(out, outAgain) || others != othersAgain {
			t.Fatal(name, "does not tell the same again")
		}
		for _, spoilOne := range spoils(&next, out) {
			spoilOne()
			if room(r) != before || fmt.Sprint(m.Log[:cap(m.Log)]) != beforeLog {
				t.Fatal(name, "keeps or hands out memory that was handed in")
			}
		}
	}
}

// Whoever is told one list and writes into it changes no other one.
func TestMemoryOfOneAnswer(t *testing.T) {
	d := rand.New(rand.NewSource(1104))
	for i := range 5000 {
		r := drawReplica(d)
		m := drawMessage(d, r)
		which := d.Intn(12)
		want, wantOut, _ := call(which, r, m)
		n := len(spoils(&want, wantOut))
		for k := range n {
			next, out, _ := call(which, r, m)
			spoils(&next, out)[k]()
			lists, wants := listsOf(next, out), listsOf(want, wantOut)
			for j := range lists {
				if j != k && k < n-1 && lists[j] != wants[j] {
					t.Fatalf("%d: call %d: list %d spoils list %d", i, which, k, j)
				}
			}
		}
	}
}

// listsOf tells each list of an answer, in the order of spoils.
func listsOf(r api.Replica, out []api.Message) []string {
	all := []string{fmt.Sprint(r.Acked), fmt.Sprint(r.Votes), fmt.Sprint(r.Voters), fmt.Sprint(r.Log), fmt.Sprint(r.Best)}
	for _, m := range out {
		all = append(all, fmt.Sprint(m.Log))
	}
	return all
}

// New tells new memory each time.
func TestMemoryOfNew(t *testing.T) {
	a, _ := New(1, 3)
	spoil(a.Acked, 9)
	b, _ := New(1, 3)
	if want, _ := newByWords(1, 3); !sameReplica(b, want) {
		t.Error("New tells", text(b))
	}
}

// What was told stays, whatever is done with what was handed in behind the call.
func TestNothingIsKept(t *testing.T) {
	d := rand.New(rand.NewSource(1105))
	for i := range 20000 {
		r := drawReplica(d)
		m := drawMessage(d, r)
		if d.Intn(5) == 0 {
			turnAny(d, &r)
		}
		r = roomy(r)
		m.Log = roomyEntries(m.Log)
		which := d.Intn(12)
		next, out, _ := call(which, r, m)
		was, wasOut := text(next), texts(out)
		spoil(r.Log, api.Entry{Time: -5})
		spoil(r.Best, api.Entry{Time: -5})
		spoil(r.Acked, -5)
		spoil(r.Votes, -5)
		spoil(r.Voters, -5)
		spoil(m.Log, api.Entry{Time: -5})
		if text(next) != was || texts(out) != wasOut {
			t.Fatalf("%d: call %d: what was told turns with what was handed in", i, which)
		}
	}
}

// No call panics, whatever it is handed.
func TestWild(t *testing.T) {
	d := rand.New(rand.NewSource(1106))
	ends := []int{lowest, lowest + 1, -1, 0, 1, 2, 3, 4, 5, 1000, latest, api.MaxTime, highest - 1, highest}
	end := func() int { return ends[d.Intn(len(ends))] }
	list := func() []int {
		var l []int
		for range d.Intn(7) {
			l = append(l, end())
		}
		return l
	}
	log := func() []api.Entry {
		var l []api.Entry
		for range d.Intn(4) {
			l = append(l, api.Entry{Time: end()})
		}
		return l
	}
	for range 50000 {
		r := drawReplica(d)
		for _, n := range []*int{&r.ID, &r.N, &r.View, &r.Normal, &r.How, &r.Commit, &r.BestView, &r.BestDone} {
			if d.Intn(12) == 0 {
				*n = end()
			}
		}
		for _, l := range []*[]int{&r.Acked, &r.Votes, &r.Voters} {
			if d.Intn(12) == 0 {
				*l = list()
			}
		}
		for _, l := range []*[]api.Entry{&r.Log, &r.Best} {
			if d.Intn(12) == 0 {
				*l = log()
			}
		}
		m := api.Message{Kind: d.Intn(10), From: end(), To: r.ID, View: end(), Index: end(), Commit: end(), Normal: end(), Log: log()}
		name := fmt.Sprintf("%s takes %+v", text(r), m)
		next, out, e := Take(r, m)
		want, wantOut, wantE := takeByWords(r, m)
		told(t, name, next, out, e, want, wantOut, api.Errno(wantE))
		time := end()
		next, out, _, e = Propose(r, time, "")
		want, wantOut, _, wantE = proposeByWords(r, time, "")
		told(t, name, next, out, e, want, wantOut, api.Errno(wantE))
		next, out, e = Suspect(r)
		want, wantOut, wantE = suspectByWords(r)
		told(t, name, next, out, e, want, wantOut, api.Errno(wantE))
		next, e = Restart(r)
		want, wantE = restartByWords(r)
		told(t, name, next, nil, e, want, nil, api.Errno(wantE))
	}
}
