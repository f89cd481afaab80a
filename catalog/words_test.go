package catalog

import (
	"slices"
	"strconv"

	"falsework/api"
	"falsework/desc"
	"falsework/value"
)

// A plain reckoning by the words of chapter 19, against which the program is held. It asks lower layers what may be, makes each answer from lists of its own, and tells from two schemas alone, trying nothing, whether one is a step from the other.

// fault is a thing that may be wrong, with its error.
type fault struct {
	is bool
	e  api.Errno
}

// firstOf is R2: the first thing that is wrong counts.
func firstOf(faults ...fault) api.Errno {
	for _, f := range faults {
		if f.is {
			return f.e
		}
	}
	return api.OK
}

// line is all that a schema has, by which two are one; "" of one that may not be.
func line(x api.Schema) string {
	if !desc.May(x) {
		return ""
	}
	w := &writer{}
	w.put(x.Version, x.Next, len(x.Tables))
	for _, t := range x.Tables {
		w.name(t.Name)
		w.put(t.ID, t.Next, len(t.Cols), len(t.Indexes))
		for _, c := range t.Cols {
			w.name(c.Name)
			w.name(c.Default.S)
			w.put(c.ID, c.Kind, c.State, c.Null, c.Default.Kind, int(c.Default.N), int(c.Default.F))
		}
		for _, i := range t.Indexes {
			w.name(i.Name)
			w.put(i.ID, i.State, len(i.Cols))
			w.put(i.Cols...)
			w.name(strconv.FormatBool(i.Unique))
		}
	}
	return string(w.b)
}

type writer struct{ b []byte }

func (w *writer) put(numbers ...int) {
	for _, n := range numbers {
		w.b = append(strconv.AppendInt(w.b, int64(n), 10), ' ')
	}
}

func (w *writer) name(s string) { w.b = append(strconv.AppendQuote(w.b, s), ' ') }

// twin is a schema in memory of its own.
func twin(x api.Schema) api.Schema {
	y := api.Schema{Version: x.Version, Next: x.Next}
	for _, t := range x.Tables {
		u := api.Table{ID: t.ID, Name: t.Name, Next: t.Next}
		u.Cols = append(u.Cols, t.Cols...)
		for _, i := range t.Indexes {
			i.Cols = append([]int{}, i.Cols...)
			u.Indexes = append(u.Indexes, i)
		}
		y.Tables = append(y.Tables, u)
	}
	return y
}

func which[T any](list []T, is func(T) bool) (T, bool) {
	for _, x := range list {
		if is(x) {
			return x, true
		}
	}
	var none T
	return none, false
}

func without[T any](list []T, is func(T) bool) []T {
	var left []T
	for _, x := range list {
		if !is(x) {
			left = append(left, x)
		}
	}
	return left
}

func repeated(names []string) bool {
	return len(slices.Compact(slices.Sorted(slices.Values(names)))) < len(names)
}

func isType(kind int) bool {
	return slices.Contains([]int{api.KBool, api.KInt, api.KFloat, api.KBytes, api.KText}, kind)
}

func isNo(name string) bool { return !desc.Name(name) }

// ahead are the errors that stand ahead of all others.
func ahead(x api.Schema) []fault {
	return []fault{{!desc.May(x), api.ErrForm}, {x.Version > api.MaxTime-2, api.ErrFull}}
}

// createByWords is 19.2.
func createByWords(x api.Schema, s api.Stmt) (api.Schema, api.Errno) {
	_, there := which(x.Tables, func(t api.Table) bool { return t.Name == s.Table })
	e := firstOf(append(ahead(x),
		fault{s.Kind != api.SqlTable, api.ErrArg},
		fault{isNo(s.Table) || slices.ContainsFunc(s.Cols, isNo), api.ErrForm},
		fault{len(s.Cols) != len(s.Types) || len(s.Cols) == 0 || len(s.Cols) > 8, api.ErrForm},
		fault{slices.ContainsFunc(s.Types, func(k int) bool { return !isType(k) }), api.ErrForm},
		fault{there || repeated(s.Cols), api.ErrTwice},
		fault{len(x.Tables) == 4 || x.Next >= 60000, api.ErrFull})...)
	if e != api.OK {
		return api.Schema{}, e
	}
	y := twin(x)
	t := api.Table{ID: x.Next, Name: s.Table, Next: len(s.Cols) + 1}
	if x.Next == 0 {
		t.ID = 1
	}
	for i := range s.Cols {
		c := api.Column{ID: i + 1, Name: s.Cols[i], Kind: s.Types[i], State: api.Public}
		if i == 0 {
			c.Null = api.Public
		}
		t.Cols = append(t.Cols, c)
	}
	return api.Schema{Version: x.Version + 1, Tables: append(y.Tables, t), Next: t.ID + 1}, api.OK
}

// beginByWords is 19.3.
func beginByWords(x api.Schema, s api.Stmt) (api.Schema, int, int, api.Errno) {
	t, there := which(x.Tables, func(t api.Table) bool { return t.Name == s.Table })
	wrong := append(ahead(x), fault{s.Kind < api.SqlAddIndex || s.Kind > api.SqlDropNull, api.ErrArg}, fault{!there, api.ErrName})
	if e := firstOf(wrong...); e != api.OK {
		return api.Schema{}, 0, 0, e
	}
	var elem int
	var e api.Errno
	switch s.Kind {
	case api.SqlAddIndex:
		t, elem, e = addIndexByWords(t, s)
	case api.SqlAddColumn:
		t, elem, e = addColumnByWords(t, s)
	case api.SqlDropIndex:
		i, ok := which(t.Indexes, func(i api.Index) bool { return i.Name == s.Name && i.State == api.Public })
		elem, e = i.ID, firstOf(fault{!ok, api.ErrName})
		t = stateByWords(t, i.ID, api.Filled)
	default:
		t, elem, e = columnByWords(t, s)
	}
	if e != api.OK {
		return api.Schema{}, 0, 0, e
	}
	return replacedByWords(x, t), t.ID, elem, api.OK
}

func addIndexByWords(t api.Table, s api.Stmt) (api.Table, int, api.Errno) {
	_, there := which(t.Indexes, func(i api.Index) bool { return i.Name == s.Name })
	var ids []int
	for _, name := range s.Cols {
		if c, ok := publicByWords(t, name); ok {
			ids = append(ids, c.ID)
		}
	}
	e := firstOf(
		fault{isNo(s.Name), api.ErrForm}, fault{len(s.Cols) == 0 || len(s.Cols) > 8, api.ErrForm},
		fault{there || repeated(s.Cols), api.ErrTwice},
		fault{len(ids) < len(s.Cols), api.ErrName},
		fault{len(t.Indexes) == 4 || t.Next == 60000, api.ErrFull})
	t.Indexes = append(without(t.Indexes, func(api.Index) bool { return false }), api.Index{ID: t.Next, Name: s.Name, Cols: ids, Unique: s.Unique, State: api.DeleteOnly})
	t.Next++
	return t, t.Next - 1, e
}

func addColumnByWords(t api.Table, s api.Stmt) (api.Table, int, api.Errno) {
	_, there := which(t.Cols, func(c api.Column) bool { return c.Name == s.Name })
	v := append(slices.Clone(s.Vals), api.Value{})[0]
	e := firstOf(
		fault{isNo(s.Name) || !isType(s.Type), api.ErrForm},
		fault{there, api.ErrTwice},
		fault{!value.May(v), api.ErrType}, fault{v.Kind != api.KNull && v.Kind != s.Type, api.ErrType},
		fault{len(t.Cols) == 8 || t.Next == 60000, api.ErrFull})
	t.Cols = append(without(t.Cols, func(api.Column) bool { return false }), api.Column{ID: t.Next, Name: s.Name, Kind: s.Type, State: api.DeleteOnly, Default: v})
	t.Next++
	return t, t.Next - 1, e
}

// columnByWords is what turns a column, or its rule.
func columnByWords(t api.Table, s api.Stmt) (api.Table, int, api.Errno) {
	c, ok := publicByWords(t, s.Name)
	first := c.ID == t.Cols[0].ID
	wrong := []fault{{!ok, api.ErrName}}
	switch s.Kind {
	case api.SqlDropColumn:
		return stateByWords(t, c.ID, api.Filled), c.ID, firstOf(append(wrong, fault{first, api.ErrKey}, fault{hasByWords(t, c.ID) || c.Null > api.Absent, api.ErrBusy})...)
	case api.SqlSetNull:
		return nullByWords(t, c.ID, api.DeleteOnly), c.ID, firstOf(append(wrong, fault{c.Null > api.Absent, api.ErrTwice})...)
	default:
		return nullByWords(t, c.ID, api.Filled), c.ID, firstOf(append(wrong, fault{first, api.ErrKey}, fault{c.Null < api.Public, api.ErrState})...)
	}
}

func publicByWords(t api.Table, name string) (api.Column, bool) {
	return which(t.Cols, func(c api.Column) bool { return c.Name == name && c.State == api.Public })
}

// hasByWords tells whether an index has a column.
func hasByWords(t api.Table, id int) bool {
	_, ok := which(t.Indexes, func(i api.Index) bool { return slices.Contains(i.Cols, id) })
	return ok
}

// stateByWords is a table whose element of an ID, a column or an index, has another state.
func stateByWords(t api.Table, id, state int) api.Table {
	cols, indexes := t.Cols, t.Indexes
	t.Cols, t.Indexes = nil, nil
	for _, c := range cols {
		if c.ID == id {
			c.State = state
		}
		t.Cols = append(t.Cols, c)
	}
	for _, i := range indexes {
		if i.ID == id {
			i.State = state
		}
		t.Indexes = append(t.Indexes, i)
	}
	return t
}

func nullByWords(t api.Table, id, null int) api.Table {
	cols := t.Cols
	t.Cols = nil
	for _, c := range cols {
		if c.ID == id {
			c.Null = null
		}
		t.Cols = append(t.Cols, c)
	}
	return t
}

// replacedByWords is a schema one version on, with a table in the place of the one of its ID.
func replacedByWords(x api.Schema, t api.Table) api.Schema {
	y := api.Schema{Version: x.Version + 1, Next: x.Next}
	for _, u := range x.Tables {
		if u.ID == t.ID {
			u = t
		}
		y.Tables = append(y.Tables, u)
	}
	return twin(y)
}

// elementByWords is 19.1's State.
func elementByWords(x api.Schema, kind, table, elem int) (int, bool) {
	t, ok := which(x.Tables, func(t api.Table) bool { return t.ID == table })
	if !ok || !desc.May(x) {
		return 0, false
	}
	c, isCol := which(t.Cols, func(c api.Column) bool { return c.ID == elem })
	i, isIndex := which(t.Indexes, func(i api.Index) bool { return i.ID == elem })
	switch kind {
	case api.SqlAddColumn, api.SqlDropColumn:
		return c.State, isCol
	case api.SqlAddIndex, api.SqlDropIndex:
		return i.State, isIndex
	case api.SqlSetNull, api.SqlDropNull:
		return c.Null, isCol
	}
	return 0, false
}

// stepByWords is 19.4.
func stepByWords(x api.Schema, kind, table, elem int, up bool) (api.Schema, api.Errno) {
	state, there := elementByWords(x, kind, table, elem)
	t, _ := which(x.Tables, func(t api.Table) bool { return t.ID == table })
	rule := kind == api.SqlSetNull || kind == api.SqlDropNull
	gone := !rule && !up && state == api.DeleteOnly
	first := len(t.Cols) > 0 && t.Cols[0].ID == elem
	e := firstOf(append(ahead(x),
		fault{!there, api.ErrName},
		fault{up && state == api.Public, api.ErrState}, fault{!up && state == api.Absent, api.ErrState},
		fault{first, api.ErrKey},
		fault{gone && hasByWords(t, elem), api.ErrBusy})...)
	if e != api.OK {
		return api.Schema{}, e
	}
	other := state - 1
	if up {
		other = state + 1
	}
	switch {
	case rule:
		t = nullByWords(t, elem, other)
	case gone:
		t.Cols = without(t.Cols, func(c api.Column) bool { return c.ID == elem })
		t.Indexes = without(t.Indexes, func(i api.Index) bool { return i.ID == elem })
	default:
		t = stateByWords(t, elem, other)
	}
	return replacedByWords(x, t), api.OK
}

// legalByWords is 19.5, told from what the two have, and from what is unlike in them.
func legalByWords(a, b api.Schema) bool {
	if !desc.May(a) || !desc.May(b) || b.Version != a.Version+1 {
		return false
	}
	if len(b.Tables) == len(a.Tables)+1 {
		return createdByWords(a, b)
	}
	if len(b.Tables) != len(a.Tables) || a.Next != b.Next {
		return false
	}
	unlike := -1
	for i := range a.Tables {
		if !oneTable(a.Tables[i], b.Tables[i]) {
			if unlike >= 0 {
				return false
			}
			unlike = i
		}
	}
	return unlike >= 0 && turnedByWords(a.Tables[unlike], b.Tables[unlike])
}

// oneTable tells whether two tables are one, by all that they have.
func oneTable(t, u api.Table) bool {
	x, y := api.Schema{Tables: []api.Table{t}, Next: t.ID + 1}, api.Schema{Tables: []api.Table{u}, Next: u.ID + 1}
	return line(x) == line(y) && desc.May(x)
}

// createdByWords tells whether b is a and a table that was made just now.
func createdByWords(a, b api.Schema) bool {
	n := len(a.Tables)
	t := b.Tables[n]
	if !slices.EqualFunc(a.Tables, b.Tables[:n], oneTable) || a.Next >= 60000 || t.ID != max(1, a.Next) || b.Next != t.ID+1 {
		return false
	}
	for i, c := range t.Cols {
		if c.ID != i+1 || c.State != api.Public || c.Default != (api.Value{}) || i > 0 && c.Null != api.Absent {
			return false
		}
	}
	return len(t.Indexes) == 0 && t.Next == len(t.Cols)+1
}

// turnedByWords tells whether just one element of a table is unlike, and by a step.
func turnedByWords(t, u api.Table) bool {
	if t.ID != u.ID || t.Name != u.Name {
		return false
	}
	switch u.Next - t.Next {
	case 1:
		return addedByWords(t, u)
	case 0:
		return goneByWords(t, u) || stateTurnedByWords(t, u)
	}
	return false
}

// addedByWords tells whether u is t and an element behind the others.
func addedByWords(t, u api.Table) bool {
	left := u
	left.Next--
	if n := len(u.Cols) - 1; n == len(t.Cols) {
		left.Cols = u.Cols[:n]
		c := u.Cols[n]
		return oneTable(t, left) && c.ID == t.Next && c.State == api.DeleteOnly && c.Null == api.Absent
	}
	n := len(u.Indexes) - 1
	if n != len(t.Indexes) {
		return false
	}
	left.Indexes = u.Indexes[:n]
	i := u.Indexes[n]
	hidden := slices.ContainsFunc(t.Cols, func(c api.Column) bool { return c.State != api.Public && slices.Contains(i.Cols, c.ID) })
	return oneTable(t, left) && i.ID == t.Next && i.State == api.DeleteOnly && !hidden
}

// goneByWords tells whether u is t without an element that was DeleteOnly.
func goneByWords(t, u api.Table) bool {
	for i, c := range t.Cols {
		left := t
		left.Cols = slices.Delete(slices.Clone(t.Cols), i, i+1)
		if i > 0 && c.State == api.DeleteOnly && oneTable(left, u) {
			return true
		}
	}
	for i, x := range t.Indexes {
		left := t
		left.Indexes = slices.Delete(slices.Clone(t.Indexes), i, i+1)
		if x.State == api.DeleteOnly && oneTable(left, u) {
			return true
		}
	}
	return false
}

// stateTurnedByWords tells whether one state, or one rule, is unlike by one.
func stateTurnedByWords(t, u api.Table) bool {
	if len(t.Cols) != len(u.Cols) || len(t.Indexes) != len(u.Indexes) {
		return false
	}
	turns, far := 0, 0
	for i, c := range t.Cols {
		d := u.Cols[i]
		turns, far = turns+abs(c.State-d.State)+abs(c.Null-d.Null), far+away(c.State, d.State)
		t = nullByWords(stateByWords(t, c.ID, d.State), c.ID, d.Null)
	}
	for i, x := range t.Indexes {
		y := u.Indexes[i]
		turns, far = turns+abs(x.State-y.State), far+away(x.State, y.State)
		t = stateByWords(t, x.ID, y.State)
	}
	return turns == 1 && far == 0 && oneTable(t, u)
}

func abs(n int) int { return max(n, -n) }

// away is 1, if a column or index is still there though it went down to Absent.
func away(from, to int) int {
	if from > to && to == api.Absent {
		return 1
	}
	return 0
}
