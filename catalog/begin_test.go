package catalog

import (
	"math"
	"slices"
	"strconv"
	"strings"
	"testing"

	"falsework/api"
)

// 19.3

// begun is the base with its table t turned, one version on.
func begun(turn func(*api.Table)) api.Schema {
	x := inT(turn)
	x.Version++
	return x
}

// makes asks Begin, which is to tell this schema and these IDs.
func makes(t *testing.T, x api.Schema, s api.Stmt, want api.Schema, table, elem int) {
	t.Helper()
	y, gotTable, gotElem := begins(t, x, s, api.OK)
	told(t, "19.3", y, want, api.OK)
	if gotTable != table || gotElem != elem {
		t.Fatalf("19.3: Begin(%+v, %+v): IDs %d %d, not %d %d", x, s, gotTable, gotElem, table, elem)
	}
	if !Legal(x, y) || Legal(y, x) {
		t.Fatalf("19.5: %+v and %+v", x, y)
	}
}

func TestBeginEach(t *testing.T) {
	added := func(x api.Index) api.Schema {
		return begun(func(t *api.Table) { t.Next, t.Indexes = 10, append(t.Indexes, x) })
	}
	makes(t, base(), parse(t, "create index j on t (c)"), added(api.Index{ID: 9, Name: "j", Cols: []int{7}, State: api.DeleteOnly}), 4, 9)
	makes(t, base(), parse(t, "create unique index j on t (d, a, b)"), added(api.Index{ID: 9, Name: "j", Cols: []int{5, 3, 1}, Unique: true, State: api.DeleteOnly}), 4, 9)
	column := func(kind int, v api.Value) api.Schema {
		return begun(func(t *api.Table) {
			t.Next, t.Cols = 10, append(t.Cols, api.Column{ID: 9, Name: "e", Kind: kind, State: api.DeleteOnly, Default: v})
		})
	}
	makes(t, base(), parse(t, "alter table t add column e int"), column(api.KInt, api.Value{}), 4, 9)
	makes(t, base(), parse(t, "alter table t add column e text default 'x'"), column(api.KText, text("x")), 4, 9)
	makes(t, base(), parse(t, "alter table t add column e bytes default null"), column(api.KBytes, api.Value{}), 4, 9)
	makes(t, base(), parse(t, "drop index i on t"), begun(func(t *api.Table) { t.Indexes[0].State = api.Filled }), 4, 2)
	makes(t, base(), parse(t, "alter table t drop column c"), begun(func(t *api.Table) { t.Cols[2].State = api.Filled }), 4, 7)
	makes(t, base(), parse(t, "alter table t alter column b set not null"), begun(func(t *api.Table) { t.Cols[1].Null = api.DeleteOnly }), 4, 1)
	x := inT(func(t *api.Table) { t.Cols[3].Null = api.Public })
	makes(t, x, parse(t, "alter table t alter column d drop not null"), begun(func(t *api.Table) { t.Cols[3].Null = api.Filled }), 4, 5)
}

// Fields that a kind does not have play no part.
func TestBeginOtherFields(t *testing.T) {
	x := inT(func(t *api.Table) { t.Cols[3].Null = api.Public })
	for _, text := range []string{"create index j on t (c)", "drop index i on t", "alter table t add column e int default 4", "alter table t drop column c", "alter table t alter column b set not null", "alter table t alter column d drop not null"} {
		s := parse(t, text)
		want, table, elem := begins(t, x, s, api.OK)
		s.Types, s.Sets, s.Conds = []int{77}, []api.Set{{Col: "z"}}, []api.Cond{{Col: "z", Sign: 9}}
		if s.Kind != api.SqlAddIndex {
			s.Unique, s.Cols = true, []string{"z", "z"}
		}
		if s.Kind != api.SqlAddColumn {
			s.Type, s.Vals = 77, []api.Value{{Kind: 9}}
		} else {
			s.Vals = append(s.Vals, api.Value{Kind: 9})
		}
		makes(t, x, s, want, table, elem)
	}
}

func TestBeginKinds(t *testing.T) {
	for _, kind := range noChanges() {
		for _, table := range []string{"t", "z", "", "T"} {
			begins(t, base(), api.Stmt{Kind: kind, Table: table, Name: "c", Cols: []string{"b"}, Type: api.KInt}, api.ErrArg)
		}
	}
	for _, s := range []string{"insert into t (a) values (1)", "update t set b = 1", "delete from t", "select * from t", "create table u (a int primary key)"} {
		begins(t, base(), parse(t, s), api.ErrArg)
	}
	for _, kind := range changes() {
		for _, table := range []string{"z", "", "T", "on", "tt", "t ", "i", "c", strings.Repeat("t", 5000)} {
			begins(t, base(), api.Stmt{Kind: kind, Table: table, Name: "c", Cols: []string{"b"}, Type: api.KInt}, api.ErrName)
			// No such table is told ahead of all that is wrong in the kind's own fields.
			begins(t, base(), api.Stmt{Kind: kind, Table: table}, api.ErrName)
		}
		begins(t, api.Schema{}, api.Stmt{Kind: kind, Table: "t", Name: "c"}, api.ErrName)
	}
}

// noTable stands behind the outer faults, in each kind.
func noTable() []turn {
	return faultsOf(api.ErrName, func(x *api.Schema, s *api.Stmt) { s.Table = "z" })
}

// refuses does all faults of a kind together, in all ways.
func refuses(t *testing.T, x func() api.Schema, s func() api.Stmt, faults ...[]turn) {
	t.Helper()
	allSubsets(slices.Concat(append([][]turn{outer(), noTable()}, faults...)...), func(some []turn, want api.Errno) {
		y, z := x(), s()
		for _, f := range some {
			f.turn(&y, &z)
		}
		begins(t, y, z, want)
	})
}

func moreIndexes(x *api.Schema, _ *api.Stmt) {
	t := &x.Tables[1]
	for i := range 3 {
		t.Indexes = append(t.Indexes, index(200+i, "x"+strconv.Itoa(i), 1))
	}
	t.Next = max(t.Next, 300)
}

func moreCols(x *api.Schema, _ *api.Stmt) {
	t := &x.Tables[1]
	for i := range 4 {
		t.Cols = append(t.Cols, col(100+i, "x"+strconv.Itoa(i)))
	}
	t.Next = max(t.Next, 300)
}

func lastID(x *api.Schema, _ *api.Stmt) { x.Tables[1].Next = 60000 }

func TestAddIndexErrors(t *testing.T) {
	refuses(t, base, func() api.Stmt { return parse(t, "create index j on t (c, b)") },
		formFault(func(x *api.Schema, s *api.Stmt) { s.Name = "J" },
			func(x *api.Schema, s *api.Stmt) { s.Cols = slices.Repeat([]string{"c", "b", "z"}, 3) }),
		faultsOf(api.ErrTwice, func(x *api.Schema, s *api.Stmt) { x.Tables[1].Indexes[0].Name = "j" },
			func(x *api.Schema, s *api.Stmt) { s.Cols = append(s.Cols[:1:1], s.Cols...) }),
		faultsOf(api.ErrName, func(x *api.Schema, s *api.Stmt) { s.Cols = append(s.Cols, "z") },
			func(x *api.Schema, s *api.Stmt) { x.Tables[1].Cols[1].State = api.Filled }),
		faultsOf(api.ErrFull, moreIndexes, lastID))
}

func TestAddColumnErrors(t *testing.T) {
	refuses(t, base, func() api.Stmt { return parse(t, "alter table t add column e int default 3") },
		formFault(func(x *api.Schema, s *api.Stmt) { s.Name = "E" }, func(x *api.Schema, s *api.Stmt) { s.Type = 0 }),
		faultsOf(api.ErrTwice, func(x *api.Schema, s *api.Stmt) { x.Tables[1].Cols[2].Name = "e" }),
		faultsOf(api.ErrType, func(x *api.Schema, s *api.Stmt) { s.Vals[0] = text("x") }, func(x *api.Schema, s *api.Stmt) { s.Vals[0].F = 1 }),
		faultsOf(api.ErrFull, moreCols, lastID))
}

func TestOtherErrors(t *testing.T) {
	refuses(t, base, func() api.Stmt { return parse(t, "drop index i on t") },
		faultsOf(api.ErrName, func(x *api.Schema, s *api.Stmt) { x.Tables[1].Indexes[0].State = api.Filled }, func(x *api.Schema, s *api.Stmt) { s.Name = "z" }))
	noColumn := faultsOf(api.ErrName, func(x *api.Schema, s *api.Stmt) { x.Tables[1].Cols[2].State = api.Filled }, func(x *api.Schema, s *api.Stmt) { s.Name = "z" })
	refuses(t, base, func() api.Stmt { return parse(t, "alter table t drop column c") }, noColumn,
		faultsOf(api.ErrBusy, func(x *api.Schema, s *api.Stmt) { x.Tables[1].Indexes[0].Cols = []int{5, 7} }, func(x *api.Schema, s *api.Stmt) { x.Tables[1].Cols[2].Null = api.DeleteOnly }))
	refuses(t, base, func() api.Stmt { return parse(t, "alter table t alter column c set not null") }, noColumn,
		faultsOf(api.ErrTwice, func(x *api.Schema, s *api.Stmt) { x.Tables[1].Cols[2].Null = api.Public }))
	ruled := func() api.Schema { return inT(func(t *api.Table) { t.Cols[2].Null = api.Public }) }
	refuses(t, ruled, func() api.Stmt { return parse(t, "alter table t alter column c drop not null") }, noColumn,
		faultsOf(api.ErrState, func(x *api.Schema, s *api.Stmt) { x.Tables[1].Cols[2].Null = api.Filled }))
	// What has no part in it: how full the table is.
	full := base()
	moreIndexes(&full, nil)
	moreCols(&full, nil)
	lastID(&full, nil)
	for _, s := range []string{"drop index i on t", "alter table t drop column c", "alter table t alter column c set not null"} {
		begins(t, full, parse(t, s), api.OK)
	}
}

func TestAddIndexCols(t *testing.T) {
	x := base()
	moreCols(&x, nil)
	all := strings.Split("a b c d x0 x1 x2 x3", " ")
	for n := range api.MaxCols + 1 {
		s := api.Stmt{Kind: api.SqlAddIndex, Table: "t", Name: "j", Cols: all[:n]}
		if n == 0 {
			begins(t, x, s, api.ErrForm)
			continue
		}
		y, _, elem := begins(t, x, s, api.OK)
		if got := y.Tables[1].Indexes[1]; elem != 300 || !slices.Equal(got.Cols, []int{3, 1, 7, 5, 100, 101, 102, 103}[:n]) {
			t.Fatalf("19.3: %+v", got)
		}
		// One of them is none, twice, or not Public.
		for i := range n {
			s.Cols = slices.Clone(all[:n])
			for _, name := range []string{"", "z", "A", "j", "i", "on", "aa"} {
				s.Cols[i] = name
				begins(t, x, s, api.ErrName)
			}
			for j := range i {
				s.Cols[i] = all[j]
				begins(t, x, s, api.ErrTwice)
			}
			s.Cols[i] = all[i]
			for _, state := range states() {
				want := api.ErrName
				if i == 0 || state == api.Public {
					want = api.OK
				}
				if i > 0 {
					z := twin(x)
					z.Tables[1].Cols[i].State = state
					begins(t, z, s, want)
				}
			}
		}
	}
	for _, n := range []int{api.MaxCols + 1, 100, 100000} {
		s := api.Stmt{Kind: api.SqlAddIndex, Table: "t", Name: "j", Cols: slices.Repeat([]string{"a"}, n)}
		begins(t, x, s, api.ErrForm)
	}
	// Two names that are none, but one: twice is told first.
	begins(t, x, api.Stmt{Kind: api.SqlAddIndex, Table: "t", Name: "j", Cols: []string{"z", "z"}}, api.ErrTwice)
}

func TestAddIndexNames(t *testing.T) {
	for _, state := range states() {
		x := inT(func(t *api.Table) { t.Indexes[0].State = state })
		begins(t, x, parse(t, "create index i on t (c)"), api.ErrTwice)
		begins(t, x, parse(t, "create index j on t (c)"), api.OK)
		begins(t, x, parse(t, "create index i on s (b)"), api.OK)
		// A table and a column may have an index's name.
		begins(t, x, parse(t, "create index t on t (c)"), api.OK)
		begins(t, x, parse(t, "create index c on t (c)"), api.OK)
	}
	for _, name := range []string{"", "J", "1", "on", "_j", strings.Repeat("j", 17)} {
		begins(t, base(), api.Stmt{Kind: api.SqlAddIndex, Table: "t", Name: name, Cols: []string{"c"}}, api.ErrForm)
		begins(t, base(), api.Stmt{Kind: api.SqlAddColumn, Table: "t", Name: name, Type: api.KInt}, api.ErrForm)
		for _, kind := range []int{api.SqlDropIndex, api.SqlDropColumn, api.SqlSetNull, api.SqlDropNull} {
			begins(t, base(), api.Stmt{Kind: kind, Table: "t", Name: name}, api.ErrName)
		}
	}
}

func TestAddIndexFull(t *testing.T) {
	x := inT(func(t *api.Table) { t.Indexes = nil })
	for i := range api.MaxIndexes {
		s := api.Stmt{Kind: api.SqlAddIndex, Table: "t", Name: "j" + strconv.Itoa(i), Cols: []string{"b"}}
		y, table, elem := begins(t, x, s, api.OK)
		if table != 4 || elem != 9+i || y.Tables[1].Next != 10+i {
			t.Fatalf("19.3: %d %d %+v", table, elem, y)
		}
		x = y
	}
	begins(t, x, parse(t, "create index k on t (b)"), api.ErrFull)
	begins(t, x, parse(t, "create index k on s (b)"), api.OK)
	for _, next := range []int{59998, 59999, 60000} {
		x := inT(func(t *api.Table) { t.Next = next })
		want := api.OK
		if next == 60000 {
			want = api.ErrFull
		}
		for _, s := range []string{"create index k on t (b)", "alter table t add column e int"} {
			y, _, elem := begins(t, x, parse(t, s), want)
			if want == api.OK && (elem != next || y.Tables[1].Next != next+1) {
				t.Fatalf("19.3: %d %+v", elem, y)
			}
		}
		begins(t, x, parse(t, "create index k on s (b)"), api.OK)
	}
}

func TestAddColumnNames(t *testing.T) {
	for _, state := range states() {
		x := inT(func(t *api.Table) { t.Cols[2].State, t.Indexes[0].State = state, state })
		begins(t, x, parse(t, "alter table t add column c int"), api.ErrTwice)
		begins(t, x, parse(t, "alter table t add column a int"), api.ErrTwice)
		begins(t, x, parse(t, "alter table s add column c int"), api.OK)
		begins(t, x, parse(t, "alter table t add column i int"), api.OK)
		begins(t, x, parse(t, "alter table t add column t int"), api.OK)
	}
	for _, kind := range []int{api.KNull, -1, api.KText + 1, 256 + api.KInt, math.MinInt, math.MaxInt} {
		begins(t, base(), api.Stmt{Kind: api.SqlAddColumn, Table: "t", Name: "e", Type: kind}, api.ErrForm)
		begins(t, base(), api.Stmt{Kind: api.SqlAddColumn, Table: "t", Name: "a", Type: kind, Vals: []api.Value{{Kind: 9}}}, api.ErrForm)
	}
}

func TestAddColumnDefaults(t *testing.T) {
	some := []api.Value{{}, {Kind: api.KBool, N: 1}, integer(-7), {Kind: api.KFloat, F: 1}, {Kind: api.KBytes, S: "\x00"}, text(strings.Repeat("x", 40))}
	wrong := []api.Value{
		{N: 1}, {F: 1}, {S: "a"}, {Kind: api.KBool, N: 2}, {Kind: api.KInt, F: 1}, {Kind: api.KInt, S: "a"}, {Kind: api.KFloat, F: 1 << 63}, {Kind: api.KFloat, F: 0x7ff8000000000001},
		{Kind: api.KBytes, S: strings.Repeat("x", 41)}, {Kind: api.KText, S: strings.Repeat("x", 41)}, {Kind: api.KText, N: 1}, {Kind: -1}, {Kind: 6}, {Kind: math.MaxInt},
	}
	for kind := api.KBool; kind <= api.KText; kind++ {
		s := api.Stmt{Kind: api.SqlAddColumn, Table: "t", Name: "e", Type: kind}
		y, _, _ := begins(t, base(), s, api.OK)
		if got := y.Tables[1].Cols[4].Default; got != (api.Value{}) {
			t.Fatalf("19.3: a default %+v without one", got)
		}
		for _, v := range some {
			s.Vals = []api.Value{v}
			if v.Kind != kind && v.Kind != api.KNull {
				begins(t, base(), s, api.ErrType)
				continue
			}
			y, _, _ := begins(t, base(), s, api.OK)
			if got := y.Tables[1].Cols[4]; got.Default != v || got.Kind != kind || got.Null != api.Absent || got.State != api.DeleteOnly {
				t.Fatalf("19.3: %+v for the default %+v", got, v)
			}
			// The first of Vals is the default, whatever stands behind it.
			s.Vals = []api.Value{v, {Kind: 9}}
			begins(t, base(), s, api.OK)
			s.Vals = []api.Value{{Kind: 9}, v}
			begins(t, base(), s, api.ErrType)
		}
		for _, v := range wrong {
			s.Vals = []api.Value{v}
			begins(t, base(), s, api.ErrType)
		}
	}
}

func TestAddColumnFull(t *testing.T) {
	x := base()
	for i := 4; i < api.MaxCols; i++ {
		s := api.Stmt{Kind: api.SqlAddColumn, Table: "t", Name: "x" + strconv.Itoa(i), Type: api.KInt}
		y, table, elem := begins(t, x, s, api.OK)
		if table != 4 || elem != 5+i || y.Tables[1].Next != 6+i || len(y.Tables[1].Cols) != i+1 {
			t.Fatalf("19.3: %d %d %+v", table, elem, y)
		}
		x = y
	}
	begins(t, x, parse(t, "alter table t add column e int"), api.ErrFull)
	begins(t, x, parse(t, "alter table t add column e int default 'x'"), api.ErrType)
	begins(t, x, parse(t, "alter table s add column e int"), api.OK)
	begins(t, x, parse(t, "create index j on t (b)"), api.OK)
}

func TestDropOfEachState(t *testing.T) {
	for _, state := range states() {
		x := inT(func(t *api.Table) { t.Indexes[0].State, t.Cols[2].State = state, state })
		want := api.ErrName
		if state == api.Public {
			want = api.OK
		}
		begins(t, x, parse(t, "drop index i on t"), want)
		begins(t, x, parse(t, "alter table t drop column c"), want)
		begins(t, x, parse(t, "alter table t alter column c set not null"), want)
		if want == api.OK {
			want = api.ErrState
		}
		begins(t, x, parse(t, "alter table t alter column c drop not null"), want)
		for _, null := range states() {
			x := inT(func(t *api.Table) { t.Cols[2].State, t.Cols[2].Null = state, null })
			dropCol, setNull, dropNull := api.OK, api.OK, api.OK
			if null != api.Absent {
				dropCol, setNull = api.ErrBusy, api.ErrTwice
			}
			if null != api.Public {
				dropNull = api.ErrState
			}
			if state != api.Public {
				dropCol, setNull, dropNull = api.ErrName, api.ErrName, api.ErrName
			}
			begins(t, x, parse(t, "alter table t drop column c"), dropCol)
			begins(t, x, parse(t, "alter table t alter column c set not null"), setNull)
			begins(t, x, parse(t, "alter table t alter column c drop not null"), dropNull)
		}
	}
}

// A name of the other kind of element means nothing.
func TestDropOfOtherKind(t *testing.T) {
	begins(t, base(), parse(t, "drop index c on t"), api.ErrName)
	begins(t, base(), parse(t, "drop index t on t"), api.ErrName)
	begins(t, base(), parse(t, "drop index i on s"), api.ErrName)
	for _, s := range []string{"drop column i", "alter column i set not null", "alter column i drop not null", "drop column t", "drop column e"} {
		begins(t, base(), parse(t, "alter table t "+s), api.ErrName)
	}
	begins(t, base(), parse(t, "alter table s drop column c"), api.ErrName)
}

func TestFirstColumn(t *testing.T) {
	for _, cols := range [][]int{{1}, {3}, {1, 3}} {
		x := inT(func(t *api.Table) { t.Indexes[0].Cols = cols })
		begins(t, x, parse(t, "alter table t drop column a"), api.ErrKey)
		begins(t, x, parse(t, "alter table t alter column a set not null"), api.ErrTwice)
		begins(t, x, parse(t, "alter table t alter column a drop not null"), api.ErrKey)
	}
}

func TestDropOfIndexed(t *testing.T) {
	for _, state := range states() {
		for _, cols := range [][]int{{7}, {7, 3}, {3, 7}, {1, 3, 5, 7}} {
			x := inT(func(t *api.Table) {
				t.Indexes = append(t.Indexes, api.Index{ID: 8, Name: "j", Cols: cols, State: state})
			})
			begins(t, x, parse(t, "alter table t drop column c"), api.ErrBusy)
			// A rule may come and go, whatever indexes there are.
			begins(t, x, parse(t, "alter table t alter column c set not null"), api.OK)
		}
		x := inT(func(t *api.Table) { t.Indexes[0].Cols, t.Indexes[0].State = []int{3, 1, 5}, state })
		begins(t, x, parse(t, "alter table t drop column c"), api.OK)
		begins(t, x, parse(t, "alter table s drop column b"), api.OK)
	}
}
