package catalog

import (
	"slices"

	"falsework/api"
	"falsework/desc"
	"falsework/value"
)

// table is an api.Table whose elements are told as pointers, through which they are turned. Only a copy is turned.
type table api.Table

// named is the table of a name among others; nil, if there is none.
func named(tables []api.Table, name string) *table {
	at := slices.IndexFunc(tables, func(t api.Table) bool { return t.Name == name })
	if at < 0 {
		return nil
	}
	return (*table)(&tables[at])
}

// numbered is the table of an ID among others; nil, if there is none.
func numbered(tables []api.Table, id int) *table {
	at := slices.IndexFunc(tables, func(t api.Table) bool { return t.ID == id })
	if at < 0 {
		return nil
	}
	return (*table)(&tables[at])
}

// way is how elements of a kind are gone about: where the state of one stands (nil, if there is none), and how one that is Absent now is let go.
type way struct {
	state func(*table, int) *int
	drop  func(*table, int) api.Errno
}

// ways are those of all kinds. A kind that adds and the one that drops the same are of one way: they only begin at other ends.
func ways() map[int]way {
	column := way{(*table).column, (*table).dropColumn}
	index := way{(*table).index, (*table).dropIndex}
	rule := way{(*table).rule, (*table).dropRule}
	return map[int]way{
		api.SqlAddColumn: column, api.SqlDropColumn: column,
		api.SqlAddIndex: index, api.SqlDropIndex: index,
		api.SqlSetNull: rule, api.SqlDropNull: rule,
	}
}

// where is where the state of an element stands; nil, if there is none, or no table.
func (t *table) where(kind, elem int) *int {
	w, ok := ways()[kind]
	if t == nil || !ok {
		return nil
	}
	return w.state(t, elem)
}

// step turns an element by one.
func (t *table) step(kind, elem int, up bool) api.Errno {
	state := t.where(kind, elem)
	switch {
	case state == nil:
		return api.ErrName
	case up && *state == api.Public || !up && *state == api.Absent:
		return api.ErrState
	case elem == t.Cols[0].ID:
		// No index has a column's ID, so this is the first column, or its rule.
		return api.ErrKey
	case up:
		*state++
		return api.OK
	}
	*state--
	if *state == api.Absent {
		return ways()[kind].drop(t, elem)
	}
	return api.OK
}

func (t *table) column(id int) *int {
	for i := range t.Cols {
		if t.Cols[i].ID == id {
			return &t.Cols[i].State
		}
	}
	return nil
}

func (t *table) index(id int) *int {
	for i := range t.Indexes {
		if t.Indexes[i].ID == id {
			return &t.Indexes[i].State
		}
	}
	return nil
}

func (t *table) rule(id int) *int {
	for i := range t.Cols {
		if t.Cols[i].ID == id {
			return &t.Cols[i].Null
		}
	}
	return nil
}

func (t *table) dropColumn(id int) api.Errno {
	if t.indexed(id) {
		return api.ErrBusy
	}
	t.Cols = slices.DeleteFunc(t.Cols, func(c api.Column) bool { return c.ID == id })
	return api.OK
}

func (t *table) dropIndex(id int) api.Errno {
	t.Indexes = slices.DeleteFunc(t.Indexes, func(x api.Index) bool { return x.ID == id })
	return api.OK
}

// dropRule has nothing to let go: a rule is no more than how far it is.
func (t *table) dropRule(int) api.Errno { return api.OK }

// indexed tells whether an index has a column, however far the index is.
func (t *table) indexed(id int) bool {
	return slices.ContainsFunc(t.Indexes, func(x api.Index) bool { return slices.Contains(x.Cols, id) })
}

// beginnings are the first steps of all kinds: each turns a table, and tells the element's ID.
func beginnings() map[int]func(*table, api.Stmt) (int, api.Errno) {
	return map[int]func(*table, api.Stmt) (int, api.Errno){
		api.SqlAddIndex:   (*table).beginIndex,
		api.SqlDropIndex:  (*table).endIndex,
		api.SqlAddColumn:  (*table).beginColumn,
		api.SqlDropColumn: (*table).endColumn,
		api.SqlSetNull:    (*table).beginRule,
		api.SqlDropNull:   (*table).endRule,
	}
}

func (t *table) beginIndex(s api.Stmt) (int, api.Errno) {
	if !desc.Name(s.Name) || len(s.Cols) < 1 || len(s.Cols) > api.MaxCols {
		return 0, api.ErrForm
	}
	if slices.ContainsFunc(t.Indexes, func(x api.Index) bool { return x.Name == s.Name }) || twice(s.Cols) {
		return 0, api.ErrTwice
	}
	var ids []int
	for _, name := range s.Cols {
		c := t.public(name)
		if c == nil {
			return 0, api.ErrName
		}
		ids = append(ids, c.ID)
	}
	if len(t.Indexes) >= api.MaxIndexes || t.Next >= maxNext {
		return 0, api.ErrFull
	}
	x := api.Index{ID: t.take(), Name: s.Name, Cols: ids, Unique: s.Unique, State: api.DeleteOnly}
	t.Indexes = append(t.Indexes, x)
	return x.ID, api.OK
}

func (t *table) beginColumn(s api.Stmt) (int, api.Errno) {
	if !desc.Name(s.Name) || !mayType(s.Type) {
		return 0, api.ErrForm
	}
	if slices.ContainsFunc(t.Cols, func(c api.Column) bool { return c.Name == s.Name }) {
		return 0, api.ErrTwice
	}
	var other api.Value
	if len(s.Vals) > 0 {
		other = s.Vals[0]
	}
	if !value.May(other) || other.Kind != api.KNull && other.Kind != s.Type {
		return 0, api.ErrType
	}
	if len(t.Cols) >= api.MaxCols || t.Next >= maxNext {
		return 0, api.ErrFull
	}
	c := api.Column{ID: t.take(), Name: s.Name, Kind: s.Type, State: api.DeleteOnly, Default: other}
	t.Cols = append(t.Cols, c)
	return c.ID, api.OK
}

func (t *table) endIndex(s api.Stmt) (int, api.Errno) {
	for i := range t.Indexes {
		if x := &t.Indexes[i]; x.Name == s.Name && x.State == api.Public {
			x.State = api.Filled
			return x.ID, api.OK
		}
	}
	return 0, api.ErrName
}

func (t *table) endColumn(s api.Stmt) (int, api.Errno) {
	c := t.public(s.Name)
	switch {
	case c == nil:
		return 0, api.ErrName
	case c == &t.Cols[0]:
		return 0, api.ErrKey
	case t.indexed(c.ID) || c.Null != api.Absent:
		return 0, api.ErrBusy
	}
	c.State = api.Filled
	return c.ID, api.OK
}

func (t *table) beginRule(s api.Stmt) (int, api.Errno) {
	c := t.public(s.Name)
	switch {
	case c == nil:
		return 0, api.ErrName
	case c.Null != api.Absent:
		return 0, api.ErrTwice
	}
	c.Null = api.DeleteOnly
	return c.ID, api.OK
}

func (t *table) endRule(s api.Stmt) (int, api.Errno) {
	c := t.public(s.Name)
	switch {
	case c == nil:
		return 0, api.ErrName
	case c == &t.Cols[0]:
		return 0, api.ErrKey
	case c.Null != api.Public:
		return 0, api.ErrState
	}
	c.Null = api.Filled
	return c.ID, api.OK
}

// public is the Public column of a name; nil, if there is none.
func (t *table) public(name string) *api.Column {
	for i := range t.Cols {
		if c := &t.Cols[i]; c.Name == name && c.State == api.Public {
			return c
		}
	}
	return nil
}

// take is an ID that no column and no index ever had.
func (t *table) take() int {
	id := t.Next
	t.Next++
	return id
}
