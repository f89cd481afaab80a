package catalog

import (
	"math"
	"slices"
	"testing"

	"falsework/api"
	"falsework/desc"
)

// 19.4

// elems are an element of each way in the base's table t, and how its state is turned there.
func elems() []struct {
	kinds []int
	elem  int
	set   func(*api.Table, int)
	gone  func(*api.Table)
} {
	return []struct {
		kinds []int
		elem  int
		set   func(*api.Table, int)
		gone  func(*api.Table)
	}{
		{[]int{api.SqlAddColumn, api.SqlDropColumn}, 7, func(t *api.Table, n int) { t.Cols[2].State = n }, func(t *api.Table) { t.Cols = slices.Delete(t.Cols, 2, 3) }},
		{[]int{api.SqlAddIndex, api.SqlDropIndex}, 2, func(t *api.Table, n int) { t.Indexes[0].State = n }, func(t *api.Table) { t.Indexes = nil }},
		{[]int{api.SqlSetNull, api.SqlDropNull}, 7, func(t *api.Table, n int) { t.Cols[2].Null = n }, func(t *api.Table) { t.Cols[2].Null = api.Absent }},
	}
}

func TestStepEach(t *testing.T) {
	for _, el := range elems() {
		for _, kind := range el.kinds {
			for _, state := range states() {
				x := inT(func(t *api.Table) { el.set(t, state) })
				if state == api.Public {
					steps(t, x, kind, 4, el.elem, true, api.ErrState)
				} else {
					up := steps(t, x, kind, 4, el.elem, true, api.OK)
					told(t, "19.4", up, begun(func(t *api.Table) { el.set(t, state+1) }), api.OK)
				}
				switch state {
				case api.Absent:
					steps(t, x, kind, 4, el.elem, false, api.ErrState)
				case api.DeleteOnly:
					told(t, "19.4", steps(t, x, kind, 4, el.elem, false, api.OK), begun(el.gone), api.OK)
				default:
					down := steps(t, x, kind, 4, el.elem, false, api.OK)
					told(t, "19.4", down, begun(func(t *api.Table) { el.set(t, state-1) }), api.OK)
				}
			}
		}
	}
}

func TestStepNames(t *testing.T) {
	for _, up := range []bool{true, false} {
		for _, kind := range changes() {
			for _, n := range []int{0, 4, 6, 8, 9, -1, -7, 256 + 7, 1<<32 + 7, math.MinInt, math.MaxInt} {
				steps(t, base(), kind, 4, n, up, api.ErrName)
			}
			for _, n := range []int{0, 1, 3, 5, -4, 256 + 4, 1<<32 + 4, math.MinInt, math.MaxInt} {
				for elem := range 9 {
					steps(t, base(), kind, n, elem, up, api.ErrName)
				}
			}
			steps(t, api.Schema{}, kind, 1, 1, up, api.ErrName)
			steps(t, api.Schema{}, kind, 0, 0, up, api.ErrName)
		}
		for _, kind := range noChanges() {
			for elem := range 9 {
				steps(t, base(), kind, 4, elem, up, api.ErrName)
			}
		}
		// IDs of the other kind of element.
		for _, elem := range []int{1, 3, 5, 7} {
			steps(t, base(), api.SqlAddIndex, 4, elem, up, api.ErrName)
			steps(t, base(), api.SqlDropIndex, 4, elem, up, api.ErrName)
		}
		for _, kind := range []int{api.SqlAddColumn, api.SqlDropColumn, api.SqlSetNull, api.SqlDropNull} {
			steps(t, base(), kind, 4, 2, up, api.ErrName)
		}
	}
}

func TestStepFirst(t *testing.T) {
	for _, cols := range [][]int{{1}, {3}} {
		x := inT(func(t *api.Table) { t.Indexes[0].Cols = cols })
		for _, kind := range []int{api.SqlAddColumn, api.SqlDropColumn, api.SqlSetNull, api.SqlDropNull} {
			steps(t, x, kind, 4, 3, false, api.ErrKey)
			steps(t, x, kind, 4, 3, true, api.ErrState)
			steps(t, x, kind, 2, 1, false, api.ErrKey)
		}
	}
}

// Of a column that an index has the last step down alone is refused.
func TestStepIndexed(t *testing.T) {
	for _, kind := range []int{api.SqlAddColumn, api.SqlDropColumn} {
		for _, state := range states() {
			for _, of := range states() {
				for _, cols := range [][]int{{7}, {3, 7}, {7, 1}} {
					x := inT(func(t *api.Table) {
						t.Indexes = append(t.Indexes, api.Index{ID: 8, Name: "j", Cols: cols, State: of})
						t.Cols[2].State = state
					})
					down, up := api.OK, api.OK
					switch state {
					case api.Absent:
						down = api.ErrState
					case api.DeleteOnly:
						down = api.ErrBusy
					case api.Public:
						up = api.ErrState
					}
					steps(t, x, kind, 4, 7, false, down)
					steps(t, x, kind, 4, 7, true, up)
				}
			}
		}
	}
	// A rule's last step down leaves the column, whatever indexes have it.
	x := inT(func(t *api.Table) { t.Indexes[0].Cols, t.Cols[2].Null = []int{7}, api.DeleteOnly })
	y := steps(t, x, api.SqlDropNull, 4, 7, false, api.OK)
	told(t, "19.4", y, begun(func(t *api.Table) { t.Indexes[0].Cols = []int{7} }), api.OK)
}

// What is gone leaves the others in their order, and those that are Absent, too.
func TestStepGone(t *testing.T) {
	four := func() api.Schema {
		return inT(func(t *api.Table) {
			t.Indexes = []api.Index{index(2, "i", 1), index(6, "k", 1, 3), index(4, "j", 3), index(8, "l", 5)}
			t.Indexes[0].Cols, t.Cols[3].State = []int{3}, api.Absent
			t.Indexes[3].State = api.Absent
			t.Indexes[1].Cols, t.Indexes[3].Cols = []int{3}, []int{3}
		})
	}
	for at, x := range four().Tables[1].Indexes[:3] {
		y := four()
		y.Tables[1].Indexes[at].State = api.DeleteOnly
		want := four()
		want.Version++
		want.Tables[1].Indexes = slices.Delete(want.Tables[1].Indexes, at, at+1)
		told(t, "19.4", steps(t, y, api.SqlDropIndex, 4, x.ID, false, api.OK), want, api.OK)
	}
	for at, c := range four().Tables[1].Cols[:3] {
		if at == 0 {
			continue
		}
		y := four()
		y.Tables[1].Cols[at].State = api.DeleteOnly
		// A rule that is there does not hold its column.
		y.Tables[1].Cols[at].Null = api.WriteOnly
		want := four()
		want.Version++
		want.Tables[1].Cols = slices.Delete(want.Tables[1].Cols, at, at+1)
		told(t, "19.4", steps(t, y, api.SqlAddColumn, 4, c.ID, false, api.OK), want, api.OK)
	}
}

// An element that is turned leaves all that is Absent beside it.
func TestStepLeavesAbsent(t *testing.T) {
	turn := func(t *api.Table) {
		t.Cols[1].State, t.Cols[3].State, t.Indexes[0].State = api.Absent, api.Absent, api.Absent
	}
	x := inT(turn)
	for _, kind := range []int{api.SqlDropColumn, api.SqlSetNull} {
		y := steps(t, x, kind, 4, 7, kind == api.SqlSetNull, api.OK)
		if len(y.Tables[1].Cols) != 4 || len(y.Tables[1].Indexes) != 1 {
			t.Fatalf("19.4: %+v", y)
		}
	}
	// A rule that would be Absent leaves its column, though that be Absent, too.
	x.Tables[1].Cols[3].Null = api.DeleteOnly
	y := steps(t, x, api.SqlSetNull, 4, 5, false, api.OK)
	told(t, "19.4", y, begun(turn), api.OK)
}

// 19.5

func TestLegalByVersion(t *testing.T) {
	x := base()
	y, _, _ := begins(t, x, parse(t, "create index j on t (c)"), api.OK)
	for version := range 12 {
		y.Version = version
		if Legal(x, y) != (version == 8) {
			t.Fatalf("19.5: from version 7 to %d", version)
		}
	}
	for _, x := range []api.Schema{{}, base()} {
		y := x
		if Legal(x, y) {
			t.Fatalf("19.5: %+v of itself", x)
		}
		y.Version++
		if Legal(x, y) || Legal(y, x) {
			t.Fatalf("19.5: nothing but a version in %+v", x)
		}
		y.Next++
		if Legal(x, y) {
			t.Fatalf("19.5: nothing but a version and an ID in %+v", x)
		}
	}
}

func TestLegalMayNot(t *testing.T) {
	x := base()
	y, _, _ := begins(t, x, parse(t, "create index j on t (c)"), api.OK)
	for _, z := range mayNot() {
		if Legal(x, z) || Legal(z, y) || Legal(z, z) {
			t.Fatalf("19.5: %+v may not be", z)
		}
		z.Version = 6
		if Legal(z, x) {
			t.Fatalf("19.5: %+v may not be", z)
		}
		z.Version = 8
		if Legal(x, z) {
			t.Fatalf("19.5: %+v may not be", z)
		}
	}
	x.Version, y.Version = api.MaxTime-2, api.MaxTime-1
	if !Legal(x, y) {
		t.Fatal("19.5: the last version")
	}
	x.Version, y.Version = api.MaxTime-1, api.MaxTime
	if Legal(x, y) {
		t.Fatal("19.5: a version that may not be")
	}
}

// follow are schemas that come of the base by one call, of each kind.
func follow(t *testing.T, x api.Schema) []api.Schema {
	t.Helper()
	all := []api.Schema{creates(t, x, wide(1), api.OK), creates(t, x, wide(3), api.OK)}
	for _, s := range []string{"create index j on t (c)", "create unique index j on t (c, a)", "drop index i on t", "alter table t add column e int", "alter table t add column e bool default true", "alter table t drop column c", "alter table t alter column c set not null", "create index j on s (b)", "alter table s drop column b"} {
		y, _, _ := begins(t, x, parse(t, s), api.OK)
		all = append(all, y)
	}
	return append(all, steps(t, x, api.SqlAddIndex, 4, 2, false, api.OK), steps(t, x, api.SqlDropColumn, 4, 1, false, api.OK), steps(t, x, api.SqlSetNull, 4, 5, true, api.OK))
}

func TestLegalOnce(t *testing.T) {
	x := base()
	for _, y := range follow(t, x) {
		if !Legal(x, y) || Legal(y, x) || Legal(y, y) {
			t.Fatalf("19.5: from %+v to %+v", x, y)
		}
		// What came new does not go without leaving its ID; what was turned goes back by a step.
		back := twin(x)
		back.Version = 9
		isNew := y.Next > x.Next || y.Tables[0].Next > x.Tables[0].Next || y.Tables[1].Next > x.Tables[1].Next
		if Legal(y, back) == isNew {
			t.Fatalf("19.5: turned round from %+v", y)
		}
	}
}

// singles are changes of the base, each of which is one step.
func singles() []func(*api.Schema) {
	newIndex := func(t *api.Table) {
		t.Indexes = append(t.Indexes, api.Index{ID: t.Next, Name: "j", Cols: []int{1}, State: api.DeleteOnly})
		t.Next++
	}
	newColumn := func(t *api.Table) {
		t.Cols = append(t.Cols, api.Column{ID: t.Next, Name: "e", Kind: api.KInt, State: api.DeleteOnly})
		t.Next++
	}
	return []func(*api.Schema){
		func(x *api.Schema) { x.Tables[1].Indexes[0].State-- },
		func(x *api.Schema) { x.Tables[1].Cols[2].State-- },
		func(x *api.Schema) { x.Tables[1].Cols[1].Null++ },
		func(x *api.Schema) { x.Tables[1].Cols[2].Null++ },
		func(x *api.Schema) { x.Tables[0].Cols[1].State-- },
		func(x *api.Schema) { newIndex(&x.Tables[0]) },
		func(x *api.Schema) { newColumn(&x.Tables[0]) },
		func(x *api.Schema) { newIndex(&x.Tables[1]) },
		func(x *api.Schema) { newColumn(&x.Tables[1]) },
		func(x *api.Schema) {
			x.Tables = append(x.Tables, api.Table{ID: x.Next, Name: "u", Next: 2, Cols: []api.Column{key(1, "a")}})
			x.Next++
		},
	}
}

func TestLegalTwoAtOnce(t *testing.T) {
	for i, one := range singles() {
		x := base()
		x.Version++
		one(&x)
		if !Legal(base(), x) {
			t.Fatalf("19.5: change %d: %+v", i, x)
		}
		for j, other := range singles() {
			y := twin(x)
			other(&y)
			y.Version = 8
			if i != j && (!desc.May(y) || Legal(base(), y)) {
				t.Fatalf("19.5: changes %d and %d at once: %+v", i, j, y)
			}
			// One behind the other they may come, where each begins from what the other has left.
			y.Version = 9
			if desc.May(y) && i != j && !Legal(x, y) {
				t.Fatalf("19.5: change %d behind %d: from %+v to %+v", j, i, x, y)
			}
			if Legal(base(), y) {
				t.Fatalf("19.5: changes %d and %d, and versions: %+v", i, j, y)
			}
		}
	}
}

func TestLegalCreate(t *testing.T) {
	x := base()
	y := creates(t, x, wide(3), api.OK)
	for i, turn := range []func(*api.Table){
		func(t *api.Table) { t.ID++ }, func(t *api.Table) { t.Next++ }, func(t *api.Table) { t.Cols[1].ID = 3; t.Cols[2].ID = 2 },
		func(t *api.Table) { t.Cols[1].State = api.Filled }, func(t *api.Table) { t.Cols[1].Null = api.Public }, func(t *api.Table) { t.Cols[2].Default.Kind, t.Cols[2].Default.F = api.KFloat, 1 },
		func(t *api.Table) { t.Next++; t.Indexes = []api.Index{index(4, "i", 2)} },
	} {
		z := twin(y)
		turn(&z.Tables[2])
		z.Next = z.Tables[2].ID + 1
		if !desc.May(z) || Legal(x, z) {
			t.Fatalf("19.5: a new table, turn %d: %+v", i, z)
		}
	}
	for i, turn := range []func(*api.Schema){
		func(z *api.Schema) { z.Next++ }, func(z *api.Schema) { z.Tables = z.Tables[1:] }, func(z *api.Schema) { z.Tables[1].Cols[1].Null = api.DeleteOnly }, func(z *api.Schema) { z.Tables[0].Name = "v" },
		func(z *api.Schema) {
			z.Tables = append(z.Tables, api.Table{ID: 6, Name: "v", Next: 2, Cols: []api.Column{key(1, "a")}})
			z.Next = 7
		},
	} {
		z := twin(y)
		turn(&z)
		if !desc.May(z) || Legal(x, z) {
			t.Fatalf("19.5: beside a new table, turn %d: %+v", i, z)
		}
	}
	// The very first one, and one with the last ID.
	for _, next := range []int{0, 1, 59999} {
		x := api.Schema{Next: next}
		if y := creates(t, x, wide(1), api.OK); !Legal(x, y) || Legal(y, x) {
			t.Fatalf("19.5: a table from Next %d", next)
		}
	}
	full := api.Schema{Version: 1, Next: 60001, Tables: []api.Table{{ID: 60000, Name: "u", Next: 2, Cols: []api.Column{{ID: 1, Name: "c0", Kind: 1, State: api.Public, Null: api.Public}}}}}
	if Legal(api.Schema{Next: 60000}, full) {
		t.Fatal("19.5: a table of ID 60000")
	}
}

func TestLegalBegin(t *testing.T) {
	x := base()
	y, _, _ := begins(t, x, parse(t, "create unique index j on t (c, a)"), api.OK)
	for i, turn := range []func(*api.Table){
		func(t *api.Table) { t.Indexes[1].State = api.WriteOnly }, func(t *api.Table) { t.Indexes[1].State = api.Absent }, func(t *api.Table) { t.Indexes[1].State = api.Public }, func(t *api.Table) { t.Indexes[1].ID = 8 }, func(t *api.Table) { t.Next = 11 },
		func(t *api.Table) { slices.Reverse(t.Indexes) }, func(t *api.Table) { t.Indexes[0].Name = "k" }, func(t *api.Table) { t.Indexes[0].State = api.Filled }, func(t *api.Table) { t.Cols[1].State = api.Filled },
	} {
		z := twin(y)
		turn(&z.Tables[1])
		if !desc.May(z) || Legal(x, z) {
			t.Fatalf("19.5: a new index, turn %d: %+v", i, z)
		}
	}
	// Of other columns, another name, or not unique it is another statement's.
	for _, turn := range []func(*api.Index){func(i *api.Index) { i.Unique = false }, func(i *api.Index) { i.Cols = []int{5} }, func(i *api.Index) { i.Name = "k" }} {
		z := twin(y)
		turn(&z.Tables[1].Indexes[1])
		if !Legal(x, z) {
			t.Fatalf("19.5: a new index: %+v", z)
		}
	}
	// Over a column that is not Public there is no such statement.
	for _, state := range states() {
		a, b := twin(x), twin(y)
		a.Tables[1].Cols[2].State, b.Tables[1].Cols[2].State = state, state
		if Legal(a, b) != (state == api.Public) {
			t.Fatalf("19.5: an index over a column of state %d", state)
		}
	}
	y, _, _ = begins(t, x, parse(t, "alter table t add column e int default 7"), api.OK)
	for i, turn := range []func(*api.Table){
		func(t *api.Table) { t.Cols[4].State = api.WriteOnly }, func(t *api.Table) { t.Cols[4].State = api.Absent }, func(t *api.Table) { t.Cols[4].Null = api.DeleteOnly }, func(t *api.Table) { t.Cols[4].ID = 8 }, func(t *api.Table) { t.Next = 11 },
		func(t *api.Table) { t.Cols[3], t.Cols[4] = t.Cols[4], t.Cols[3] }, func(t *api.Table) { t.Cols[3].Name = "f" }, func(t *api.Table) { t.Cols[3].Default = integer(1) },
	} {
		z := twin(y)
		turn(&z.Tables[1])
		if !desc.May(z) || Legal(x, z) {
			t.Fatalf("19.5: a new column, turn %d: %+v", i, z)
		}
	}
	for _, turn := range []func(*api.Column){func(c *api.Column) { c.Default = api.Value{} }, func(c *api.Column) { c.Default, c.Kind = text("x"), api.KText }, func(c *api.Column) { c.Name = "f" }} {
		z := twin(y)
		turn(&z.Tables[1].Cols[4])
		if !Legal(x, z) {
			t.Fatalf("19.5: a new column: %+v", z)
		}
	}
}

// 19.6

// Each element of the base, in each state, a step up and one down.
func TestUpAndDown(t *testing.T) {
	for _, state := range states()[1:4] {
		x := inT(func(t *api.Table) {
			for i := range t.Cols[1:] {
				t.Cols[i+1].State, t.Cols[i+1].Null = state, state
			}
			t.Indexes[0].State = state
		})
		for _, kind := range changes() {
			for elem := range 9 {
				if at, ok := State(x, kind, 4, elem); !ok || at == api.Public {
					continue
				}
				y := steps(t, x, kind, 4, elem, true, api.OK)
				z := steps(t, y, kind, 4, elem, false, api.OK)
				if !Legal(x, y) || !Legal(y, z) {
					t.Fatalf("19.5: %+v, %+v, %+v", x, y, z)
				}
				z.Version -= 2
				told(t, "19.6", z, x, api.OK)
			}
		}
	}
	// From nothing up and down again leaves all but Version and Next.
	for _, s := range []string{"create index j on t (c)", "alter table t add column e int default 1", "alter table t alter column c set not null"} {
		y, table, elem := begins(t, base(), parse(t, s), api.OK)
		z := steps(t, y, parse(t, s).Kind, table, elem, false, api.OK)
		z.Version, z.Tables[1].Next = 7, 9
		told(t, "19.6", z, base(), api.OK)
	}
}

// R3

// spoil writes into all that a schema has. It begins with spare room, by which nothing that is there is turned.
func spoil(t *testing.T, x api.Schema) {
	t.Helper()
	for _, tab := range x.Tables {
		for _, i := range tab.Indexes {
			was := line(x)
			for j := len(i.Cols); j < cap(i.Cols); j++ {
				i.Cols[:cap(i.Cols)][j] = 77
			}
			if line(x) != was {
				t.Fatalf("R3: spare room of an index's Cols is another list's: %+v", x)
			}
		}
		was := line(x)
		for j := len(tab.Cols); j < cap(tab.Cols); j++ {
			tab.Cols[:cap(tab.Cols)][j] = api.Column{ID: 77}
		}
		for j := len(tab.Indexes); j < cap(tab.Indexes); j++ {
			tab.Indexes[:cap(tab.Indexes)][j] = api.Index{ID: 77}
		}
		if line(x) != was {
			t.Fatalf("R3: spare room is another list's: %+v", x)
		}
	}
	for i, tab := range x.Tables {
		for _, in := range tab.Indexes {
			for k := range in.Cols {
				in.Cols[k] = 99
			}
		}
		clear(tab.Cols)
		clear(tab.Indexes)
		x.Tables[i] = api.Table{ID: 99}
	}
	for j := len(x.Tables); j < cap(x.Tables); j++ {
		x.Tables[:cap(x.Tables)][j] = api.Table{ID: 77}
	}
}

// roomy is a schema whose lists all have spare room.
func roomy() api.Schema {
	x := base()
	x.Tables = append(make([]api.Table, 0, 9), x.Tables...)
	for i := range x.Tables {
		tab := &x.Tables[i]
		tab.Cols = append(make([]api.Column, 0, 19), tab.Cols...)
		tab.Indexes = append(make([]api.Index, 0, 9), tab.Indexes...)
		for k := range tab.Indexes {
			tab.Indexes[k].Cols = append(make([]int, 0, 9), tab.Indexes[k].Cols...)
		}
	}
	return x
}

// spare is all spare room of a roomy schema, in which nothing may be written.
func spare(t *testing.T, x api.Schema) {
	t.Helper()
	for _, tab := range x.Tables[len(x.Tables):cap(x.Tables)] {
		if tab.ID != 0 {
			t.Fatalf("R3: written behind the tables: %+v", tab)
		}
	}
	for _, tab := range x.Tables {
		for _, c := range tab.Cols[len(tab.Cols):cap(tab.Cols)] {
			if c != (api.Column{}) {
				t.Fatalf("R3: written behind the columns: %+v", c)
			}
		}
		for _, i := range tab.Indexes[len(tab.Indexes):cap(tab.Indexes)] {
			if i.ID != 0 {
				t.Fatalf("R3: written behind the indexes: %+v", i)
			}
		}
	}
}

func TestSpoilt(t *testing.T) {
	x := roomy()
	was := line(x)
	for _, y := range follow(t, x) {
		spoil(t, y)
		if line(x) != was {
			t.Fatalf("R3: what was told has turned what was handed in: %+v", x)
		}
		spare(t, x)
	}
	last := roomy()
	last.Tables[1].Indexes[0].State = api.DeleteOnly
	left := line(last)
	spoil(t, steps(t, last, api.SqlDropIndex, 4, 2, false, api.OK))
	if line(last) != left {
		t.Fatalf("R3: what was told has turned what was handed in: %+v", last)
	}
	tab, _ := Table(x, "t")
	shown := Shown(tab)
	spoil(t, api.Schema{Tables: []api.Table{tab}})
	if line(x) != was || names(shown) != "abcd" {
		t.Fatalf("R3: Table, Shown: %+v %+v", x, shown)
	}
	tab, _ = Table(x, "t")
	shown = Shown(tab)
	clear(shown[:cap(shown)])
	if names(tab.Cols) != "abcd" {
		t.Fatalf("R3: Shown: %+v", tab)
	}
	spare(t, x)
}

// A statement's lists, spoilt behind the call, change nothing that was told.
func TestSpoiltStatement(t *testing.T) {
	for _, s := range []api.Stmt{wide(3), parse(t, "create index j on t (c, b)"), parse(t, "alter table t add column e int default 7")} {
		x := base()
		var y api.Schema
		if s.Kind == api.SqlTable {
			y = creates(t, x, s, api.OK)
		} else {
			y, _, _ = begins(t, x, s, api.OK)
		}
		was := line(y)
		for i := range s.Cols {
			s.Cols[i] = "z"
		}
		clear(s.Types)
		clear(s.Vals)
		x.Tables[0].Cols[1].Name = "z"
		x.Tables[1].Indexes[0].Cols[0] = 3
		if line(y) != was {
			t.Fatalf("R3: %+v", y)
		}
	}
	s := wide(3)
	creates(t, base(), s, api.OK)
	if !slices.Equal(s.Cols, wide(3).Cols) || !slices.Equal(s.Types, wide(3).Types) {
		t.Fatalf("R3: Create has turned %+v", s)
	}
}

// A nil list and an empty one are one.
func TestEmptyLists(t *testing.T) {
	x, y := inT(func(t *api.Table) { t.Indexes = nil }), inT(func(t *api.Table) { t.Indexes = []api.Index{} })
	x.Tables[0].Indexes = []api.Index{}
	s := parse(t, "create index j on t (c)")
	a, _, _ := begins(t, x, s, api.OK)
	b, _, _ := begins(t, y, s, api.OK)
	told(t, "R3", a, b, api.OK)
	if !Legal(x, b) || !Legal(y, a) {
		t.Fatal("19.5: a nil list and an empty one")
	}
	told(t, "R3", creates(t, api.Schema{Tables: []api.Table{}}, wide(1), api.OK), creates(t, api.Schema{}, wide(1), api.OK), api.OK)
	c := steps(t, a, api.SqlAddIndex, 4, 9, false, api.OK)
	x.Tables[1].Next = 10
	x.Version = 9
	told(t, "R3", c, x, api.OK)
}
