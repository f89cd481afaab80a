package catalog

import (
	"math"
	"math/rand"
	"slices"
	"testing"

	"falsework/api"
	"falsework/desc"
)

func pick[T any](r *rand.Rand, l []T) T { return l[r.Intn(len(l))] }

// drawnState is mostly Public.
func drawnState(r *rand.Rand) int {
	if r.Intn(2) == 0 {
		return api.Public
	}
	return r.Intn(5)
}

func drawnValue(r *rand.Rand, kind int) api.Value {
	switch kind {
	case api.KBool:
		return api.Value{Kind: kind, N: int64(r.Intn(2))}
	case api.KInt:
		return api.Value{Kind: kind, N: pick(r, []int64{0, 1, 7, -1, math.MinInt64})}
	case api.KFloat:
		return api.Value{Kind: kind, F: pick(r, []uint64{0, 1, 0x3ff0000000000000, 0x7ff8000000000000})}
	case api.KBytes, api.KText:
		return api.Value{Kind: kind, S: pick(r, []string{"", "a", "\x00"})}
	}
	return api.Value{}
}

func drawnTable(r *rand.Rand, id int, name string) api.Table {
	t := api.Table{ID: id, Name: name}
	n, m := 1+r.Intn(8), pick(r, []int{0, 0, 1, 1, 2, 3, 4})
	ids := r.Perm(n + m + r.Intn(3))
	if r.Intn(3) > 0 {
		slices.Sort(ids)
	}
	t.Next = len(ids) + 1
	names := r.Perm(10)
	for i := range n {
		c := api.Column{ID: ids[i] + 1, Name: string(rune('a' + names[i])), Kind: 1 + r.Intn(5), State: drawnState(r)}
		if r.Intn(3) == 0 {
			c.Null = r.Intn(5)
		}
		if r.Intn(3) == 0 {
			c.Default = drawnValue(r, c.Kind)
		}
		t.Cols = append(t.Cols, c)
	}
	t.Cols[0].State, t.Cols[0].Null, t.Cols[0].Default = api.Public, api.Public, api.Value{}
	names = r.Perm(6)
	for i := range m {
		x := api.Index{ID: ids[n+i] + 1, Name: string(rune('a' + names[i])), Unique: r.Intn(2) == 0, State: drawnState(r)}
		for _, at := range r.Perm(n)[:1+r.Intn(min(n, 3))] {
			x.Cols = append(x.Cols, t.Cols[at].ID)
		}
		t.Indexes = append(t.Indexes, x)
	}
	if r.Intn(6) == 0 {
		t.Next = pick(r, []int{59999, 60000})
	}
	return t
}

func drawnSchema(r *rand.Rand) api.Schema {
	x := api.Schema{Version: r.Intn(9)}
	names := r.Perm(6)
	for i := range pick(r, []int{0, 1, 1, 1, 2, 2, 3, 4}) {
		x.Next += 1 + r.Intn(2)
		x.Tables = append(x.Tables, drawnTable(r, x.Next, string(rune('s'+names[i]))))
		x.Next++
	}
	if r.Intn(10) == 0 {
		x.Next = pick(r, []int{59999, 60000, api.MaxTime - 1})
	}
	if r.Intn(12) == 0 {
		x.Version = pick(r, []int{api.MaxTime - 2, api.MaxTime - 1, api.MaxTime})
	}
	if r.Intn(20) == 0 {
		return nudged(r, x)
	}
	return x
}

// nudged is a schema with one thing turned; it may not be, now and then.
func nudged(r *rand.Rand, x api.Schema) api.Schema {
	y := twin(x)
	if len(y.Tables) == 0 || !desc.May(x) || r.Intn(10) == 0 {
		if r.Intn(2) == 0 {
			y.Version += pick(r, []int{-1, 1, api.MaxTime})
		} else {
			y.Next += pick(r, []int{-1, 1, api.MaxTime})
		}
		return y
	}
	at := r.Intn(len(y.Tables))
	t := &y.Tables[at]
	switch r.Intn(12) {
	case 0:
		t.Name = pick(r, []string{"s", "t", "u", "T", "on"})
	case 1:
		t.Next += pick(r, []int{-1, 1, 60000})
	case 2:
		t.ID += pick(r, []int{-1, 1})
	case 3:
		y.Tables = slices.Delete(y.Tables, at, at+1)
	case 4, 5, 6:
		if len(t.Indexes) > 0 {
			nudgeIndex(r, t)
		}
	default:
		nudgeColumn(r, t)
	}
	return y
}

func nudgeColumn(r *rand.Rand, t *api.Table) {
	at, other := r.Intn(len(t.Cols)), r.Intn(len(t.Cols))
	c := &t.Cols[at]
	switch r.Intn(9) {
	case 0:
		c.Name += "x"
	case 1:
		c.Kind = r.Intn(7)
	case 2:
		c.ID += pick(r, []int{-1, 1})
	case 3:
		c.Default = drawnValue(r, c.Kind)
	case 4:
		t.Cols[at], t.Cols[other] = t.Cols[other], t.Cols[at]
	case 5:
		t.Cols = slices.Delete(t.Cols, at, at+1)
	case 6:
		c.Null += pick(r, []int{-2, -1, 1, 2})
	default:
		c.State += pick(r, []int{-2, -1, 1, 2})
	}
}

func nudgeIndex(r *rand.Rand, t *api.Table) {
	at, other := r.Intn(len(t.Indexes)), r.Intn(len(t.Indexes))
	x := &t.Indexes[at]
	switch r.Intn(8) {
	case 0:
		x.Name += "x"
	case 1:
		x.Unique = !x.Unique
	case 2:
		x.ID += pick(r, []int{-1, 1})
	case 3:
		slices.Reverse(x.Cols)
	case 4:
		t.Indexes[at], t.Indexes[other] = t.Indexes[other], t.Indexes[at]
	case 5:
		t.Indexes = slices.Delete(t.Indexes, at, at+1)
	case 6:
		x.Cols[0] = t.Cols[r.Intn(len(t.Cols))].ID
	default:
		x.State += pick(r, []int{-2, -1, 1, 2})
	}
}

func drawnName(r *rand.Rand, from rune, n int) string {
	if r.Intn(40) == 0 {
		return pick(r, []string{"", "A", "on", "a_0123456789abcdef"})
	}
	return string(from + rune(r.Intn(n)))
}

// drawnStmt is mostly one that means something in a schema.
func drawnStmt(r *rand.Rand, x api.Schema) api.Stmt {
	s := api.Stmt{Kind: api.SqlTable + r.Intn(7), Table: drawnName(r, 's', 6), Unique: r.Intn(2) == 0, Type: 1 + r.Intn(5)}
	t := api.Table{}
	if len(x.Tables) > 0 && r.Intn(8) > 0 && s.Kind != api.SqlTable {
		t = pick(r, x.Tables)
		s.Table = t.Name
	}
	s.Name = drawnName(r, 'a', 10)
	if s.Kind == api.SqlAddIndex || s.Kind == api.SqlDropIndex {
		s.Name = drawnName(r, 'a', 6)
	}
	if n := len(t.Cols); n > 0 && s.Kind >= api.SqlDropColumn && r.Intn(4) > 0 {
		s.Name = t.Cols[r.Intn(n)].Name
	}
	if n := len(t.Indexes); n > 0 && s.Kind == api.SqlDropIndex && r.Intn(4) > 0 {
		s.Name = t.Indexes[r.Intn(n)].Name
	}
	for range pick(r, []int{0, 1, 1, 1, 2, 2, 3, 8, 9}) {
		s.Cols = append(s.Cols, drawnName(r, 'a', 10))
		s.Types = append(s.Types, 1+r.Intn(5))
	}
	if len(t.Cols) > 0 && r.Intn(3) > 0 {
		s.Cols = nil
		for _, at := range r.Perm(len(t.Cols))[:1+r.Intn(min(len(t.Cols), 2))] {
			s.Cols = append(s.Cols, t.Cols[at].Name)
		}
	}
	if r.Intn(2) == 0 {
		s.Vals = append(s.Vals, drawnValue(r, pick(r, []int{s.Type, s.Type, s.Type, api.KNull, api.KInt})))
	}
	return nudgedStmt(r, s)
}

// nudgedStmt is a statement, now and then with one field turned.
func nudgedStmt(r *rand.Rand, s api.Stmt) api.Stmt {
	switch r.Intn(40) {
	case 0:
		s.Kind = pick(r, []int{-1, 0, 1, 2, 3, 4, 5, 12, math.MaxInt})
	case 1:
		s.Type = pick(r, []int{-1, 0, 6, math.MinInt})
	case 2:
		s.Types = append(s.Types, r.Intn(8)-1)
	case 3:
		s.Vals = []api.Value{{Kind: s.Type, N: 2, S: "a"}}
	case 4:
		s.Vals = append(s.Vals, api.Value{Kind: 9})
	case 5:
		s.Cols = append(s.Cols, s.Cols...)
	}
	return s
}

// drawnStep is mostly one of an element that is there; of ten of them so many go up.
func drawnStep(r *rand.Rand, x api.Schema, ups int) (kind, table, elem int, up bool) {
	kind, table, elem, up = api.SqlAddIndex+r.Intn(6), r.Intn(4), r.Intn(10), r.Intn(10) < ups
	if len(x.Tables) > 0 && r.Intn(10) > 0 {
		t := pick(r, x.Tables)
		table = t.ID
		isIndex := kind == api.SqlAddIndex || kind == api.SqlDropIndex
		if n := len(t.Indexes); isIndex && n > 0 && r.Intn(10) > 0 {
			elem = t.Indexes[r.Intn(n)].ID
		}
		if n := len(t.Cols); !isIndex && n > 0 && r.Intn(10) > 0 {
			elem = t.Cols[r.Intn(n)].ID
		}
	}
	if r.Intn(40) == 0 {
		kind = pick(r, []int{-1, 0, 1, 5, 12, math.MinInt})
	}
	return kind, table, elem, up
}

// seen counts answers by their call, kind and error.
type seen map[[3]int]int

const (
	ofCreate = iota
	ofBegin
	ofStep
	ofLegal
)

// drawOne does one call on a schema, held against the reckoning, and tells what became of it.
func drawOne(t *testing.T, r *rand.Rand, x api.Schema, ups int, counts seen) (api.Schema, api.Errno) {
	t.Helper()
	was := line(x)
	s := drawnStmt(r, x)
	kind, table, elem, up := drawnStep(r, x, ups)
	var y, want api.Schema
	var e, wantE api.Errno
	call := ofStep
	switch {
	case r.Intn(2) == 0:
		y, e = Step(x, kind, table, elem, up)
		want, wantE = stepByWords(x, kind, table, elem, up)
		counts[[3]int{ofStep, kind, int(e)}]++
	case s.Kind == api.SqlTable || r.Intn(20) == 0:
		call = ofCreate
		y, e = Create(x, s)
		want, wantE = createByWords(x, s)
		counts[[3]int{ofCreate, s.Kind, int(e)}]++
	default:
		call = ofBegin
		y, table, elem, e = Begin(x, s)
		var wantTable, wantElem int
		want, wantTable, wantElem, wantE = beginByWords(x, s)
		if table != wantTable || elem != wantElem {
			t.Fatalf("19.3: Begin(%+v, %+v): IDs %d %d, not %d %d", x, s, table, elem, wantTable, wantElem)
		}
		counts[[3]int{ofBegin, s.Kind, int(e)}]++
	}
	if e != wantE || !desc.May(y) || line(y) != line(want) {
		t.Fatalf("19.%d: of %+v, %+v, %d %d %d %t: %d %+v, not %d %+v", call+2, x, s, kind, table, elem, up, e, y, wantE, want)
	}
	if line(x) != was {
		t.Fatalf("R3: %+v", x)
	}
	return y, e
}

// looks asks what is in a schema, held against the reckoning.
func looks(t *testing.T, r *rand.Rand, x api.Schema) {
	t.Helper()
	kind, table, elem, _ := drawnStep(r, x, 5)
	state, ok := State(x, kind, table, elem)
	if want, wantOk := elementByWords(x, kind, table, elem); ok != wantOk || ok && state != want || !ok && state != 0 {
		t.Fatalf("19.1: State(%+v, %d, %d, %d): %d %t, not %d %t", x, kind, table, elem, state, ok, want, wantOk)
	}
	name := drawnName(r, 's', 6)
	tab, ok := Table(x, name)
	want, wantOk := which(x.Tables, func(t api.Table) bool { return t.Name == name })
	wantOk = wantOk && desc.May(x)
	if ok != wantOk || ok && !oneTable(tab, want) || !ok && (tab.ID != 0 || len(tab.Cols) > 0) {
		t.Fatalf("19.1: Table(%+v, %q): %+v %t, not %t", x, name, tab, ok, wantOk)
	}
	shown := without(tab.Cols, func(c api.Column) bool { return c.State < api.Public })
	if got := Shown(tab); !slices.Equal(got, shown) {
		t.Fatalf("19.1: Shown(%+v): %+v", tab, got)
	}
}

// holdsLegal holds Legal against the reckoning.
func holdsLegal(t *testing.T, a, b api.Schema, counts seen) bool {
	t.Helper()
	was := line(a) + line(b)
	got, want := Legal(a, b), legalByWords(a, b)
	if got != want {
		t.Fatalf("19.5: Legal(%+v, %+v): %t", a, b, got)
	}
	if line(a)+line(b) != was {
		t.Fatalf("R3: %+v %+v", a, b)
	}
	if got {
		counts[[3]int{ofLegal, 0, 1}]++
	} else {
		counts[[3]int{ofLegal, 0, 0}]++
	}
	return got
}

// errorsOf are all answers that a call has for a kind.
func errorsOf(kind int) []api.Errno {
	switch kind {
	case api.SqlTable:
		return []api.Errno{api.OK, api.ErrForm, api.ErrTwice, api.ErrFull}
	case api.SqlAddIndex:
		return []api.Errno{api.OK, api.ErrForm, api.ErrTwice, api.ErrName, api.ErrFull}
	case api.SqlAddColumn:
		return []api.Errno{api.OK, api.ErrForm, api.ErrTwice, api.ErrType, api.ErrName, api.ErrFull}
	case api.SqlDropIndex:
		return []api.Errno{api.OK, api.ErrForm, api.ErrName, api.ErrFull}
	case api.SqlDropColumn:
		return []api.Errno{api.OK, api.ErrForm, api.ErrName, api.ErrKey, api.ErrBusy, api.ErrFull}
	case api.SqlSetNull:
		return []api.Errno{api.OK, api.ErrForm, api.ErrName, api.ErrTwice, api.ErrFull}
	default:
		return []api.Errno{api.OK, api.ErrForm, api.ErrName, api.ErrKey, api.ErrState, api.ErrFull}
	}
}

func (c seen) enough(t *testing.T, least, call, kind int, e api.Errno) {
	t.Helper()
	if n := c[[3]int{call, kind, int(e)}]; n < least {
		t.Errorf("19.%d: kind %d, answer %d was drawn only %d times", call+2, kind, e, n)
	}
}

func TestDrawn(t *testing.T) {
	r := rand.New(rand.NewSource(19))
	counts := seen{}
	for range 16000 {
		x := drawnSchema(r)
		looks(t, r, x)
		y, e := drawOne(t, r, x, 4, counts)
		if e == api.OK {
			if !holdsLegal(t, x, y, counts) {
				t.Fatalf("19.5: Legal(%+v, %+v)", x, y)
			}
			holdsLegal(t, x, nudged(r, y), counts)
			holdsLegal(t, y, x, counts)
		}
		x.Version--
		holdsLegal(t, x, nudged(r, y), counts)
		x.Version++
		y = nudged(r, x)
		y.Version++
		holdsLegal(t, x, y, counts)
	}
	counts.enough(t, 2000, ofLegal, 0, 0)
	counts.enough(t, 2000, ofLegal, 0, 1)
	for kind := api.SqlTable; kind <= api.SqlDropNull; kind++ {
		call := ofBegin
		if kind == api.SqlTable {
			call = ofCreate
		}
		for _, e := range errorsOf(kind) {
			counts.enough(t, 10, call, kind, e)
		}
		for _, e := range []api.Errno{api.OK, api.ErrForm, api.ErrFull, api.ErrName, api.ErrState, api.ErrKey} {
			if index := kind == api.SqlAddIndex || kind == api.SqlDropIndex; kind != api.SqlTable && !(index && e == api.ErrKey) {
				counts.enough(t, 10, ofStep, kind, e)
			}
		}
	}
	counts.enough(t, 10, ofStep, api.SqlAddColumn, api.ErrBusy)
	counts.enough(t, 10, ofStep, api.SqlDropColumn, api.ErrBusy)
}

// A schema that goes on and on from nothing: what one call told is handed in to the next.
func TestDrawnRuns(t *testing.T) {
	r := rand.New(rand.NewSource(191))
	counts := seen{}
	versions := 0
	for range 100 {
		x := api.Schema{}
		for i := range 300 {
			looks(t, r, x)
			y, e := drawOne(t, r, x, []int{10, 8, 1}[i/100], counts)
			if e != api.OK {
				continue
			}
			if y.Version != x.Version+1 || !holdsLegal(t, x, y, counts) {
				t.Fatalf("19.6: from %+v to %+v", x, y)
			}
			x = y
		}
		versions += x.Version
	}
	if versions < 5000 {
		t.Errorf("19.6: all runs made %d versions alone", versions)
	}
	for kind := api.SqlAddIndex; kind <= api.SqlDropNull; kind++ {
		counts.enough(t, 10, ofBegin, kind, api.OK)
		counts.enough(t, 25, ofStep, kind, api.OK)
	}
}
