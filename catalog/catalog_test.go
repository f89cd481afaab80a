package catalog

import (
	"math"
	"slices"
	"strconv"
	"strings"
	"testing"

	"falsework/api"
	"falsework/desc"
	"falsework/sql"
)

func parse(t *testing.T, text string) api.Stmt {
	t.Helper()
	s, _, e := sql.Parse(text)
	if e != api.OK {
		t.Fatalf("%s is no statement: %d", text, e)
	}
	return s
}

func integer(n int64) api.Value { return api.Value{Kind: api.KInt, N: n} }
func text(s string) api.Value   { return api.Value{Kind: api.KText, S: s} }

// col is a public column of ints, without a rule.
func col(id int, name string) api.Column {
	return api.Column{ID: id, Name: name, Kind: api.KInt, State: api.Public}
}

func key(id int, name string) api.Column {
	c := col(id, name)
	c.Null = api.Public
	return c
}

// index is a public one.
func index(id int, name string, cols ...int) api.Index {
	return api.Index{ID: id, Name: name, Cols: cols, State: api.Public}
}

// base has tables s and t; t has the columns a, b, c, d and an index on b.
func base() api.Schema {
	return api.Schema{Version: 7, Next: 5, Tables: []api.Table{
		{ID: 2, Name: "s", Next: 3, Cols: []api.Column{key(1, "a"), col(2, "b")}},
		{ID: 4, Name: "t", Next: 9, Cols: []api.Column{key(3, "a"), col(1, "b"), col(7, "c"), col(5, "d")}, Indexes: []api.Index{index(2, "i", 1)}},
	}}
}

// inT is the base with its table t turned.
func inT(turn func(*api.Table)) api.Schema {
	x := base()
	turn(&x.Tables[1])
	return x
}

func states() []int {
	return []int{api.Absent, api.DeleteOnly, api.WriteOnly, api.Filled, api.Public}
}

func changes() []int {
	return []int{api.SqlAddIndex, api.SqlDropIndex, api.SqlAddColumn, api.SqlDropColumn, api.SqlSetNull, api.SqlDropNull}
}

// noChanges are numbers that are no kind of a change.
func noChanges() []int {
	return []int{0, api.SqlInsert, api.SqlUpdate, api.SqlDelete, api.SqlSelect, api.SqlTable, api.SqlDropNull + 1, -1, -api.SqlAddIndex, 256 + api.SqlAddIndex, 1<<32 + api.SqlAddColumn, math.MinInt, math.MaxInt}
}

// mayNot are schemas that may not be, each by a fault of its own.
func mayNot() []api.Schema {
	all := []api.Schema{{Version: -1}, {Next: -1}, {Version: api.MaxTime}, {Next: api.MaxTime}, {Version: math.MaxInt}, {Version: math.MinInt}, {Tables: make([]api.Table, 1)}}
	for _, turn := range []func(*api.Table){
		func(t *api.Table) { t.ID = 0 }, func(t *api.Table) { t.ID = 5 }, func(t *api.Table) { t.ID = 2 }, func(t *api.Table) { t.Name = "s" }, func(t *api.Table) { t.Name = "T" },
		func(t *api.Table) { t.Next = 7 }, func(t *api.Table) { t.Next = 60001 }, func(t *api.Table) { t.Cols = nil },
		func(t *api.Table) { t.Cols[0].State = api.Filled }, func(t *api.Table) { t.Cols[0].Null = api.Absent }, func(t *api.Table) { t.Cols[0].Default = integer(1) },
		func(t *api.Table) { t.Cols[1].State = -1 }, func(t *api.Table) { t.Cols[1].Null = 5 }, func(t *api.Table) { t.Cols[1].Name = "c" }, func(t *api.Table) { t.Cols[2].ID = 2 },
		func(t *api.Table) { t.Indexes[0].Cols = nil }, func(t *api.Table) { t.Indexes[0].Cols[0] = 6 }, func(t *api.Table) { t.Indexes[0].State = 5 },
	} {
		all = append(all, inT(turn))
	}
	return all
}

// told holds an answer of Create, Begin or Step against what is wanted.
func told(t *testing.T, promise string, x, want api.Schema, e api.Errno) {
	t.Helper()
	if e != api.OK || !desc.May(x) || line(x) != line(want) {
		t.Fatalf("%s: %d %+v, not %+v", promise, e, x, want)
	}
}

func isZero(x api.Schema) bool { return x.Version == 0 && x.Next == 0 && len(x.Tables) == 0 }

func creates(t *testing.T, x api.Schema, s api.Stmt, want api.Errno) api.Schema {
	t.Helper()
	was := line(x)
	y, e := Create(x, s)
	if e != want || e != api.OK && !isZero(y) {
		t.Fatalf("19.2: Create(%+v, %+v): %d %+v, not %d", x, s, e, y, want)
	}
	if line(x) != was {
		t.Fatalf("R3: Create has turned %+v", x)
	}
	if e == api.OK && (!desc.May(y) || y.Version != x.Version+1) {
		t.Fatalf("19.6: Create(%+v, %+v): %+v", x, s, y)
	}
	return y
}

func begins(t *testing.T, x api.Schema, s api.Stmt, want api.Errno) (api.Schema, int, int) {
	t.Helper()
	was := line(x)
	y, table, elem, e := Begin(x, s)
	if e != want || e != api.OK && (!isZero(y) || table != 0 || elem != 0) {
		t.Fatalf("19.3: Begin(%+v, %+v): %d %d %d %+v, not %d", x, s, e, table, elem, y, want)
	}
	if line(x) != was {
		t.Fatalf("R3: Begin has turned %+v", x)
	}
	if e == api.OK && (!desc.May(y) || y.Version != x.Version+1) {
		t.Fatalf("19.6: Begin(%+v, %+v): %+v", x, s, y)
	}
	return y, table, elem
}

func steps(t *testing.T, x api.Schema, kind, table, elem int, up bool, want api.Errno) api.Schema {
	t.Helper()
	was := line(x)
	y, e := Step(x, kind, table, elem, up)
	if e != want || e != api.OK && !isZero(y) {
		t.Fatalf("19.4: Step(%+v, %d, %d, %d, %t): %d %+v, not %d", x, kind, table, elem, up, e, y, want)
	}
	if line(x) != was {
		t.Fatalf("R3: Step has turned %+v", x)
	}
	if e == api.OK && (!desc.May(y) || y.Version != x.Version+1) {
		t.Fatalf("19.6: Step(%+v, %d, %d, %d, %t): %+v", x, kind, table, elem, up, y)
	}
	return y
}

// isAt asks State; below 0: there is no such element.
func isAt(t *testing.T, x api.Schema, kind, table, elem, want int) {
	t.Helper()
	state, ok := State(x, kind, table, elem)
	if ok != (want >= 0) || ok && state != want || !ok && state != 0 {
		t.Fatalf("19.1: State(%+v, %d, %d, %d): %d %t, not %d", x, kind, table, elem, state, ok, want)
	}
}

// The document's example

func TestExample(t *testing.T) {
	x := creates(t, api.Schema{}, parse(t, "create table t (a int primary key, b text)"), api.OK)
	was := x
	x, table, elem := begins(t, x, parse(t, "create index i on t (b)"), api.OK)
	if table != 1 || elem != 3 {
		t.Fatalf("19.3: IDs %d %d", table, elem)
	}
	isAt(t, x, api.SqlAddIndex, table, elem, api.DeleteOnly)
	begun := x
	for _, state := range []int{api.WriteOnly, api.Filled, api.Public} {
		x = steps(t, x, api.SqlAddIndex, table, elem, true, api.OK)
		isAt(t, x, api.SqlAddIndex, table, elem, state)
	}
	want := begun
	want.Version, want.Tables = 5, []api.Table{{ID: 1, Name: "t", Next: 4,
		Cols:    []api.Column{key(1, "a"), {ID: 2, Name: "b", Kind: api.KText, State: api.Public}},
		Indexes: []api.Index{index(3, "i", 2)}}}
	told(t, "19.4", x, want, api.OK)
	x, table, elem = begins(t, x, parse(t, "drop index i on t"), api.OK)
	if table != 1 || elem != 3 {
		t.Fatalf("19.3: IDs %d %d", table, elem)
	}
	for _, state := range []int{api.Filled, api.WriteOnly, api.DeleteOnly} {
		isAt(t, x, api.SqlDropIndex, table, elem, state)
		x = steps(t, x, api.SqlDropIndex, table, elem, false, api.OK)
	}
	isAt(t, x, api.SqlDropIndex, table, elem, -1)
	was.Version, was.Tables[0].Next = 9, 4
	told(t, "19.6", x, was, api.OK)
}

// Schemas that may not be, and versions that come to their end

// anyStmts are statements of all kinds that would do in the base, and some that would not.
func anyStmts(t *testing.T) []api.Stmt {
	t.Helper()
	var all []api.Stmt
	for _, s := range []string{
		"create table u (a int primary key)", "create index j on t (b)", "drop index i on t", "alter table t add column e int", "alter table t drop column c",
		"alter table t alter column c set not null", "alter table t alter column a drop not null", "select * from t", "create index j on z (b)", "create table t (a int primary key)", "alter table t drop column a",
	} {
		all = append(all, parse(t, s))
	}
	return append(all, api.Stmt{}, api.Stmt{Kind: -1, Table: "t"}, api.Stmt{Kind: api.SqlTable, Table: "T"}, api.Stmt{Kind: api.SqlAddIndex, Table: "t", Name: "I"})
}

func TestMayNot(t *testing.T) {
	for _, x := range mayNot() {
		if desc.May(x) {
			t.Fatalf("%+v may be", x)
		}
		for _, name := range []string{"s", "t", "", "z"} {
			if tab, ok := Table(x, name); ok || tab.ID != 0 || tab.Name != "" || tab.Next != 0 || len(tab.Cols) > 0 || len(tab.Indexes) > 0 {
				t.Fatalf("19.1: Table(%+v, %q): %+v", x, name, tab)
			}
		}
		for _, s := range anyStmts(t) {
			creates(t, x, s, api.ErrForm)
			begins(t, x, s, api.ErrForm)
		}
		for _, kind := range append(changes(), noChanges()...) {
			for elem := range 9 {
				isAt(t, x, kind, 2, elem, -1)
				isAt(t, x, kind, 4, elem, -1)
				steps(t, x, kind, 4, elem, elem%2 == 0, api.ErrForm)
			}
		}
	}
}

func TestLastVersions(t *testing.T) {
	x := base()
	for _, s := range anyStmts(t) {
		for _, end := range []struct {
			version int
			e       api.Errno
		}{{api.MaxTime - 1, api.ErrFull}, {api.MaxTime, api.ErrForm}, {-1, api.ErrForm}} {
			x.Version = end.version
			creates(t, x, s, end.e)
			begins(t, x, s, end.e)
			for _, kind := range append(changes(), noChanges()...) {
				for elem := range 9 {
					steps(t, x, kind, 4, elem, elem%2 == 0, end.e)
				}
			}
		}
	}
	x.Version = api.MaxTime - 2
	if y := creates(t, x, parse(t, "create table u (a int primary key)"), api.OK); y.Version != api.MaxTime-1 {
		t.Fatalf("19.2: %+v", y)
	}
	if y, _, _ := begins(t, x, parse(t, "create index j on t (b)"), api.OK); y.Version != api.MaxTime-1 {
		t.Fatalf("19.3: %+v", y)
	}
	if y := steps(t, x, api.SqlAddIndex, 4, 2, false, api.OK); y.Version != api.MaxTime-1 || !Legal(x, y) {
		t.Fatalf("19.4: %+v", y)
	}
	creates(t, x, parse(t, "select * from t"), api.ErrArg)
	begins(t, x, parse(t, "create index j on z (b)"), api.ErrName)
	steps(t, x, api.SqlAddIndex, 4, 2, true, api.ErrState)
	// Where nothing is made, the last version is as good as others.
	x.Version = api.MaxTime - 1
	isAt(t, x, api.SqlAddIndex, 4, 2, api.Public)
	if _, ok := Table(x, "t"); !ok {
		t.Fatal("19.1: a table of the last version")
	}
}

// Of a schema that may not be, in its last version, it is ErrForm.
func TestMayNotAheadOfFull(t *testing.T) {
	for _, x := range mayNot()[6:] {
		x.Version = api.MaxTime - 1
		creates(t, x, parse(t, "create table u (a int primary key)"), api.ErrForm)
		begins(t, x, parse(t, "create index j on t (b)"), api.ErrForm)
		steps(t, x, api.SqlAddIndex, 4, 2, false, api.ErrForm)
	}
}

// 19.1

func TestTable(t *testing.T) {
	x := base()
	x.Tables = append(x.Tables, api.Table{ID: 9, Name: "u", Next: 2, Cols: []api.Column{key(1, "a")}})
	x.Next = 10
	for _, want := range x.Tables {
		got, ok := Table(x, want.Name)
		if !ok || !oneTable(got, want) {
			t.Fatalf("19.1: Table(x, %q): %+v %t", want.Name, got, ok)
		}
	}
	for _, name := range []string{"", "a", "T", "st", "tt", "t ", "i", "select", "t\x00", strings.Repeat("t", 1000)} {
		for _, x := range []api.Schema{x, {}, {Version: 3, Next: 9}} {
			if got, ok := Table(x, name); ok || got.ID != 0 || got.Name != "" || got.Next != 0 || len(got.Cols) > 0 || len(got.Indexes) > 0 {
				t.Fatalf("19.1: Table(x, %q): %+v %t", name, got, ok)
			}
		}
	}
	if _, ok := Table(api.Schema{}, "t"); ok {
		t.Fatal("19.1: a table of a schema without any")
	}
}

func names(cols []api.Column) string {
	s := ""
	for _, c := range cols {
		s += c.Name
	}
	return s
}

func TestShown(t *testing.T) {
	if got := Shown(api.Table{}); len(got) != 0 {
		t.Fatalf("19.1: Shown of no table: %+v", got)
	}
	tab := base().Tables[1]
	if got := Shown(tab); !slices.Equal(got, tab.Cols) {
		t.Fatalf("19.1: Shown(%+v): %+v", tab, got)
	}
	for _, state := range states() {
		tab.Cols[1].State = state
		want := "acd"
		if state == api.Public {
			want = "abcd"
		}
		if got := Shown(tab); names(got) != want {
			t.Fatalf("19.1: Shown(%+v): %+v", tab, got)
		}
		// How far a rule is, has no part in it.
		tab.Cols[2].Null = state
		if got := Shown(tab); names(got) != want || got[len(got)-2] != tab.Cols[2] {
			t.Fatalf("19.1: Shown(%+v): %+v", tab, got)
		}
	}
	for i := range tab.Cols {
		tab.Cols[i].State = api.Filled
	}
	tab.Cols[3].State = api.Public
	if got := Shown(tab); names(got) != "d" {
		t.Fatalf("19.1: Shown(%+v): %+v", tab, got)
	}
	tab.Cols[3].State = api.Absent
	if got := Shown(tab); len(got) != 0 {
		t.Fatalf("19.1: Shown(%+v): %+v", tab, got)
	}
}

func TestState(t *testing.T) {
	for _, state := range states() {
		x := inT(func(t *api.Table) {
			t.Cols[1].State, t.Cols[1].Null, t.Indexes[0].State = state, api.Public-state, (state+2)%5
		})
		for _, kind := range []int{api.SqlAddColumn, api.SqlDropColumn} {
			isAt(t, x, kind, 4, 1, state)
			isAt(t, x, kind, 4, 3, api.Public)
			isAt(t, x, kind, 4, 2, -1)
			isAt(t, x, kind, 2, 1, api.Public)
		}
		for _, kind := range []int{api.SqlSetNull, api.SqlDropNull} {
			isAt(t, x, kind, 4, 1, api.Public-state)
			isAt(t, x, kind, 4, 3, api.Public)
			isAt(t, x, kind, 4, 5, api.Absent)
			isAt(t, x, kind, 4, 2, -1)
		}
		for _, kind := range []int{api.SqlAddIndex, api.SqlDropIndex} {
			isAt(t, x, kind, 4, 2, (state+2)%5)
			isAt(t, x, kind, 4, 1, -1)
			isAt(t, x, kind, 4, 3, -1)
			isAt(t, x, kind, 2, 2, -1)
		}
	}
	for _, kind := range changes() {
		for _, n := range []int{0, 4, 6, 8, 9, 60000, -1, -3, math.MinInt, math.MaxInt} {
			isAt(t, base(), kind, 4, n, -1)
		}
		for _, n := range []int{0, 1, 3, 5, -2, -4, math.MinInt, math.MaxInt} {
			for elem := range 9 {
				isAt(t, base(), kind, n, elem, -1)
			}
		}
		isAt(t, api.Schema{}, kind, 1, 1, -1)
		isAt(t, api.Schema{}, kind, 0, 0, -1)
	}
	for _, kind := range noChanges() {
		for elem := range 9 {
			isAt(t, base(), kind, 4, elem, -1)
		}
	}
}

// 19.2

func wide(n int) api.Stmt {
	s := api.Stmt{Kind: api.SqlTable, Table: "u"}
	for i := range n {
		s.Cols, s.Types = append(s.Cols, "c"+strconv.Itoa(i)), append(s.Types, 1+i%5)
	}
	return s
}

func TestCreate(t *testing.T) {
	for n := range api.MaxCols + 3 {
		if n < 1 || n > api.MaxCols {
			creates(t, base(), wide(n), api.ErrForm)
			creates(t, api.Schema{}, wide(n), api.ErrForm)
			continue
		}
		tab := api.Table{Name: "u", Next: n + 1}
		for i := range n {
			tab.Cols = append(tab.Cols, api.Column{ID: i + 1, Name: "c" + strconv.Itoa(i), Kind: 1 + i%5, State: api.Public})
		}
		tab.Cols[0].Null = api.Public
		for _, next := range []int{5, 6, 59998, 59999} {
			x := base()
			x.Next = next
			y := creates(t, x, wide(n), api.OK)
			tab.ID = next
			told(t, "19.2", y, api.Schema{Version: 8, Next: next + 1, Tables: append(base().Tables, tab)}, api.OK)
		}
		for _, next := range []int{0, 1, 2, 59999} {
			y := creates(t, api.Schema{Version: 3, Next: next}, wide(n), api.OK)
			tab.ID = max(next, 1)
			told(t, "19.2", y, api.Schema{Version: 4, Next: tab.ID + 1, Tables: []api.Table{tab}}, api.OK)
		}
	}
}

// Of a statement that makes a table other fields have no part in it.
func TestCreateOtherFields(t *testing.T) {
	s := wide(2)
	want := creates(t, base(), s, api.OK)
	s.Name, s.Vals, s.Unique, s.Type = "ON", []api.Value{{Kind: 9}}, true, 77
	s.Sets, s.Conds = []api.Set{{Col: "z"}}, []api.Cond{{Col: "z", Sign: 9}}
	told(t, "19.2", creates(t, base(), s, api.OK), want, api.OK)
}

// turn makes something wrong in a schema, or a statement, with the error that it is.
type turn struct {
	e    api.Errno
	turn func(*api.Schema, *api.Stmt)
}

func formFault(turns ...func(*api.Schema, *api.Stmt)) []turn {
	return faultsOf(api.ErrForm, turns...)
}

func faultsOf(e api.Errno, turns ...func(*api.Schema, *api.Stmt)) []turn {
	var all []turn
	for _, f := range turns {
		all = append(all, turn{e, f})
	}
	return all
}

// allSubsets does every number of faults together, of which the first one is to be told. The faults stand in the document's order.
func allSubsets(faults []turn, do func(faults []turn, want api.Errno)) {
	for set := range 1 << len(faults) {
		var some []turn
		for i, f := range faults {
			if set>>i&1 == 1 {
				some = append(some, f)
			}
		}
		want := api.OK
		if len(some) > 0 {
			want = some[0].e
		}
		do(some, want)
	}
}

// outer are the faults that stand ahead of all others.
func outer() []turn {
	return []turn{
		{api.ErrForm, func(x *api.Schema, s *api.Stmt) { x.Tables[0].Next = 0 }},
		{api.ErrFull, func(x *api.Schema, s *api.Stmt) { x.Version = api.MaxTime - 1 }},
	}
}

func TestCreateErrors(t *testing.T) {
	faults := slices.Concat(outer(),
		faultsOf(api.ErrArg, func(x *api.Schema, s *api.Stmt) { s.Kind = api.SqlAddColumn }),
		formFault(
			func(x *api.Schema, s *api.Stmt) { s.Cols, s.Types = append(s.Cols, "on"), append(s.Types, 1) },
			func(x *api.Schema, s *api.Stmt) { s.Types = append(s.Types, 1) },
			func(x *api.Schema, s *api.Stmt) { s.Types[0] = 6 }),
		faultsOf(api.ErrTwice,
			func(x *api.Schema, s *api.Stmt) { x.Tables[1].Name = "u" },
			func(x *api.Schema, s *api.Stmt) { s.Cols, s.Types = append(s.Cols, "c0"), append(s.Types, 1) }),
		faultsOf(api.ErrFull,
			func(x *api.Schema, s *api.Stmt) {
				for i := range 2 {
					x.Tables = append(x.Tables, api.Table{ID: 5 + i, Name: "v" + strconv.Itoa(i), Next: 2, Cols: []api.Column{key(1, "a")}})
				}
				x.Next = max(x.Next, 7)
			},
			func(x *api.Schema, s *api.Stmt) { x.Next = 60000 }))
	allSubsets(faults, func(some []turn, want api.Errno) {
		x, s := base(), wide(2)
		for _, f := range some {
			f.turn(&x, &s)
		}
		creates(t, x, s, want)
	})
}

func TestCreateNames(t *testing.T) {
	for _, name := range []string{"", "T", "1", "_a", "on", "a b", "a-", "\xff", "int", strings.Repeat("a", 17), strings.Repeat("a", 5000)} {
		s := wide(3)
		s.Table = name
		creates(t, base(), s, api.ErrForm)
		for i := range 3 {
			s = wide(3)
			s.Cols[i] = name
			creates(t, base(), s, api.ErrForm)
			s.Cols[(i+1)%3] = name
			creates(t, base(), s, api.ErrForm)
			s.Table = "t"
			creates(t, base(), s, api.ErrForm)
		}
	}
	s := wide(3)
	s.Cols[1], s.Table = strings.Repeat("a", 16), "a_0123456789zzzz"
	creates(t, base(), s, api.OK)
	// Two tables may have columns of one name, and a column its table's.
	s.Cols[0], s.Cols[1] = "a", s.Table
	creates(t, base(), s, api.OK)
}

func TestCreateTypes(t *testing.T) {
	for i := range 3 {
		for _, kind := range []int{api.KNull, api.KText + 1, -1, 256 + api.KInt, math.MinInt, math.MaxInt} {
			s := wide(3)
			s.Types[i] = kind
			creates(t, base(), s, api.ErrForm)
		}
		for kind := api.KBool; kind <= api.KText; kind++ {
			s := wide(3)
			s.Types[i] = kind
			if y := creates(t, base(), s, api.OK); y.Tables[2].Cols[i].Kind != kind {
				t.Fatalf("19.2: %+v", y)
			}
		}
	}
	for n := 1; n <= api.MaxCols; n++ {
		for m := range api.MaxCols + 2 {
			s := wide(n)
			s.Types = wide(m).Types
			want := api.ErrForm
			if n == m {
				want = api.OK
			}
			creates(t, base(), s, want)
		}
	}
	s := wide(2)
	s.Types = nil
	creates(t, base(), s, api.ErrForm)
	s = wide(2)
	s.Cols = nil
	creates(t, base(), s, api.ErrForm)
}

func TestCreateTwice(t *testing.T) {
	for i := range api.MaxCols {
		for j := range api.MaxCols {
			s := wide(api.MaxCols)
			s.Cols[i] = s.Cols[j]
			want := api.ErrTwice
			if i == j {
				want = api.OK
			}
			creates(t, base(), s, want)
		}
	}
	for _, name := range []string{"s", "t"} {
		s := wide(1)
		s.Table = name
		creates(t, base(), s, api.ErrTwice)
		creates(t, api.Schema{}, s, api.OK)
	}
}

func TestCreateFull(t *testing.T) {
	x := api.Schema{}
	for i := range api.MaxTables {
		s := wide(1)
		s.Table = "t" + strconv.Itoa(i)
		x = creates(t, x, s, api.OK)
		if x.Tables[i].ID != i+1 || x.Next != i+2 || x.Version != i+1 {
			t.Fatalf("19.2: %+v", x)
		}
	}
	creates(t, x, wide(1), api.ErrFull)
	for _, next := range []int{60000, 60001, 1 << 20, api.MaxTime - 1} {
		creates(t, api.Schema{Next: next}, wide(1), api.ErrFull)
		x := base()
		x.Next = next
		creates(t, x, wide(1), api.ErrFull)
	}
	creates(t, api.Schema{Next: api.MaxTime}, wide(1), api.ErrForm)
	creates(t, api.Schema{Next: -1}, wide(1), api.ErrForm)
}

func TestCreateKinds(t *testing.T) {
	for _, kind := range append(changes(), noChanges()...) {
		s := wide(2)
		s.Kind = kind
		want := api.ErrArg
		if kind == api.SqlTable {
			want = api.OK
		}
		creates(t, base(), s, want)
		s.Table = "T"
		if kind == api.SqlTable {
			want = api.ErrForm
		}
		creates(t, base(), s, want)
	}
}
