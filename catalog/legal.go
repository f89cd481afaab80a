package catalog

import (
	"slices"

	"falsework/api"
	"falsework/desc"
)

// Legal tells whether a step leads from one to the other.
func Legal(a, b api.Schema) bool {
	if !desc.May(a) || !desc.May(b) {
		return false
	}
	// Each call makes one table, or turns one: where more are apart, nothing need be tried.
	apart := others(b.Tables, a.Tables)
	return len(apart) == 1 && (added(a, b, apart[0]) || stepped(a, b, apart[0].ID))
}

// others are the tables that are not just so among those that were.
func others(tables, were []api.Table) []api.Table {
	var apart []api.Table
	for _, t := range tables {
		if !slices.ContainsFunc(were, func(u api.Table) bool { return sameTable(t, u) }) {
			apart = append(apart, t)
		}
	}
	return apart
}

// added tells whether b comes of a by a statement that adds table t, or an element of it. A statement that drops, or turns a rule, begins with just what Step makes, too, so none is tried.
func added(a, b api.Schema, t api.Table) bool {
	if y, e := Create(a, creating(t)); e == api.OK && same(y, b) {
		return true
	}
	for _, s := range adding(t) {
		if y, _, _, e := Begin(a, s); e == api.OK && same(y, b) {
			return true
		}
	}
	return false
}

// creating is the one statement that can have made a table.
func creating(t api.Table) api.Stmt {
	s := api.Stmt{Kind: api.SqlTable, Table: t.Name}
	for _, c := range t.Cols {
		s.Cols, s.Types = append(s.Cols, c.Name), append(s.Types, c.Kind)
	}
	return s
}

// adding are the statements that can have added an element of a table.
func adding(t api.Table) []api.Stmt {
	var all []api.Stmt
	for _, c := range t.Cols {
		all = append(all, api.Stmt{Kind: api.SqlAddColumn, Table: t.Name, Name: c.Name, Vals: []api.Value{c.Default}, Type: c.Kind})
	}
	for _, x := range t.Indexes {
		s := api.Stmt{Kind: api.SqlAddIndex, Table: t.Name, Name: x.Name, Unique: x.Unique}
		for _, id := range x.Cols {
			at := slices.IndexFunc(t.Cols, func(c api.Column) bool { return c.ID == id })
			s.Cols = append(s.Cols, t.Cols[at].Name)
		}
		all = append(all, s)
	}
	return all
}

// stepped tells whether b comes of a by a step of an element of the table of an ID.
func stepped(a, b api.Schema, id int) bool {
	t := numbered(a.Tables, id)
	if t == nil {
		return false
	}
	for _, c := range t.Cols {
		if turned(a, b, api.SqlAddColumn, id, c.ID) || turned(a, b, api.SqlSetNull, id, c.ID) {
			return true
		}
	}
	for _, x := range t.Indexes {
		if turned(a, b, api.SqlAddIndex, id, x.ID) {
			return true
		}
	}
	return false
}

// turned tells whether b comes of a by a step of one element, up or down.
func turned(a, b api.Schema, kind, table, elem int) bool {
	for _, up := range []bool{true, false} {
		if y, e := Step(a, kind, table, elem, up); e == api.OK && same(y, b) {
			return true
		}
	}
	return false
}

// same tells whether two schemas are one.
func same(a, b api.Schema) bool {
	return a.Version == b.Version && a.Next == b.Next && slices.EqualFunc(a.Tables, b.Tables, sameTable)
}

func sameTable(a, b api.Table) bool {
	return a.ID == b.ID && a.Name == b.Name && a.Next == b.Next &&
		slices.Equal(a.Cols, b.Cols) && slices.EqualFunc(a.Indexes, b.Indexes, sameIndex)
}

func sameIndex(a, b api.Index) bool {
	return a.ID == b.ID && a.Name == b.Name && a.Unique == b.Unique && a.State == b.State && slices.Equal(a.Cols, b.Cols)
}
