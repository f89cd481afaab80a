package sql

import (
	"math"
	"slices"
	"strings"
	"testing"

	"falsework/api"
)

// silent asks Text of statements that no text says.
func silent(t *testing.T, all ...api.Stmt) {
	t.Helper()
	for _, x := range all {
		was := plain(x)
		if s, e := Text(x); s != "" || e != api.ErrForm {
			t.Errorf("17.2: Text(%+v): %q %d, not ErrForm", x, s, e)
		}
		if !alike(x, was) {
			t.Errorf("R3: Text has turned %+v to %+v", was, x)
		}
	}
}

// stmts are what the samples say.
func stmts(t *testing.T) []api.Stmt {
	t.Helper()
	var all []api.Stmt
	for _, s := range samples() {
		x, _, e := Parse(s)
		switch e {
		case api.OK:
			all = append(all, x)
		case api.ErrLong:
		default:
			t.Fatal("a sample:", s, e)
		}
	}
	return all
}

// 17.2: the samples are in the one form

func TestSamples(t *testing.T) {
	for _, s := range samples() {
		if x, _, e := Parse(s); e == api.OK {
			both(t, s, x)
		}
	}
}

func TestTheOneForm(t *testing.T) {
	for s, want := range map[string]string{
		"insert into t(a,b)values(1,'x');":                             "insert into t ( a , b ) values ( 1 , 'x' )",
		"\n insert\tinto t (a)\nvalues (null) ; ":                      "insert into t ( a ) values ( null )",
		"insert into t(a)values(f'8000000000000000')":                  "insert into t ( a ) values ( f'0000000000000000' )",
		"insert into t(a)values(f'ffffffffffffffff',x'',''''''';)''')": "insert into t ( a ) values ( f'7ff8000000000000' , x'' , ''''''';)''' )",
		"update t set a=a+-1,b=true where a<1 and b is not null":       "update t set a = a + -1 , b = true where a < 1 and b is not null",
		"delete from t;":                                                "delete from t",
		"select*from t where a>x'ff'":                                   "select * from t where a > x'ff'",
		"select a,b from t;":                                            "select a , b from t",
		"create table t(a int primary key)":                             "create table t ( a int primary key )",
		"create unique index i on t(a,b);":                              "create unique index i on t ( a , b )",
		"drop  index  i  on  t  ;":                                      "drop index i on t",
		"alter table t add column c float default f'3ff0000000000000';": "alter table t add column c float default f'3ff0000000000000'",
	} {
		x, _, e := Parse(s)
		if got, wrong := Text(x); e != api.OK || got != want || wrong != api.OK {
			t.Errorf("17.2: Text of Parse(%q): %d, %q %d, not %q", s, e, got, wrong, want)
		}
		sameAgain(t, x, want)
	}
}

func TestEmptyListsAreNone(t *testing.T) {
	for _, x := range stmts(t) {
		want, _ := Text(x)
		y := x
		y.Cols, y.Vals, y.Sets = append([]string{}, x.Cols...), append([]api.Value{}, x.Vals...), append([]api.Set{}, x.Sets...)
		y.Conds, y.Types = append([]api.Cond{}, x.Conds...), append([]int{}, x.Types...)
		if s, e := Text(y); s != want || e != api.OK {
			t.Errorf("R3: Text(%+v) with empty lists: %q %d, not %q", x, s, e, want)
		}
	}
}

// 17.2: what no text says

func TestKindsThatAreNone(t *testing.T) {
	for _, kind := range []int{0, -1, 12, 13, 100, 256, math.MinInt, math.MaxInt} {
		silent(t, api.Stmt{Kind: kind}, api.Stmt{Kind: kind, Table: "t"})
		for _, x := range stmts(t) {
			x.Kind = kind
			silent(t, x)
		}
	}
}

// Of each two forms, one's fields are the other's only where the other has just these.
func TestKindsOfOtherForms(t *testing.T) {
	for _, x := range stmts(t) {
		for kind := api.SqlInsert; kind <= api.SqlDropNull; kind++ {
			x.Kind = kind
			writes(t, x)
		}
	}
	silent(t, api.Stmt{Kind: api.SqlInsert, Table: "t"}, api.Stmt{Kind: api.SqlUpdate, Table: "t"}, api.Stmt{Kind: api.SqlTable, Table: "t"}, api.Stmt{Kind: api.SqlAddIndex, Table: "t", Name: "i"}, api.Stmt{Kind: api.SqlAddColumn, Table: "t", Name: "c"})
}

// with lets a copy of each sample be turned.
func with(t *testing.T, turn func(x *api.Stmt)) []api.Stmt {
	t.Helper()
	all := stmts(t)
	for i := range all {
		all[i] = plain(all[i])
		turn(&all[i])
	}
	return all
}

func TestFieldsThatTheFormDoesNotSet(t *testing.T) {
	has := func(kinds ...int) func(x api.Stmt) bool {
		return func(x api.Stmt) bool { return slices.Contains(kinds, x.Kind) }
	}
	alter := []int{api.SqlAddColumn, api.SqlDropColumn, api.SqlSetNull, api.SqlDropNull}
	for _, c := range []struct {
		sets func(x api.Stmt) bool
		turn func(x *api.Stmt)
	}{
		{has(append(alter, api.SqlAddIndex, api.SqlDropIndex)...), func(x *api.Stmt) { x.Name = "a" }},
		{has(append(alter, api.SqlAddIndex, api.SqlDropIndex)...), func(x *api.Stmt) { x.Name = x.Table }},
		{has(api.SqlInsert, api.SqlSelect, api.SqlTable, api.SqlAddIndex), func(x *api.Stmt) { x.Cols = append(x.Cols, "a") }},
		{has(api.SqlInsert, api.SqlAddColumn), func(x *api.Stmt) { x.Vals = append(x.Vals, integer(1)) }},
		{has(api.SqlInsert, api.SqlAddColumn), func(x *api.Stmt) { x.Vals = append(x.Vals, null) }},
		{has(api.SqlUpdate), func(x *api.Stmt) { x.Sets = append(x.Sets, set("a", integer(1))) }},
		{has(api.SqlUpdate), func(x *api.Stmt) { x.Sets = append(x.Sets, api.Set{}) }},
		{has(api.SqlUpdate, api.SqlDelete, api.SqlSelect), func(x *api.Stmt) { x.Conds = append(x.Conds, cond("a", api.CondNull, null)) }},
		{has(api.SqlUpdate, api.SqlDelete, api.SqlSelect), func(x *api.Stmt) { x.Conds = append(x.Conds, api.Cond{}) }},
		{has(api.SqlAddIndex), func(x *api.Stmt) { x.Unique = true }},
		{has(api.SqlAddColumn), func(x *api.Stmt) { x.Type = api.KInt }},
		{has(api.SqlTable), func(x *api.Stmt) { x.Types = append(x.Types, api.KInt) }},
		{has(api.SqlTable), func(x *api.Stmt) { x.Types = append(x.Types, 0) }},
	} {
		for _, x := range with(t, c.turn) {
			if !c.sets(x) {
				silent(t, x)
			}
			writes(t, x)
		}
	}
}

func TestNamesThatAreNone(t *testing.T) {
	names := append(allWords(), "", " ", "A", "a b", " a", "a ", "a\n", "5", "5a", "_", "_a", "aA", "a.b", "a-b", "'a'", "x'00'", "(", "*", "a,b", "a , b", "a;", "a = 1", "a int", "a\x00", "\x00", "\xff", "seventeen_letters", times(1<<20, "a", ""),
		"t where a = 1", "t ;", "t ( a )", "a ) values ( 1 ) ;", "i on t", "c int", "c int default 1", "a is null and b", "a + 1", "c set", "t alter column c")
	for _, name := range names {
		all := []api.Stmt{
			update(list(set(name, null))), update(list(add(name, null))), update(list(set("a", null), set(name, null))),
			remove(cond(name, api.CondEq, null)), remove(cond(name, api.CondNull, null)), remove(cond("a", api.CondEq, null), cond(name, api.CondSome, null)),
			insert(list(name), null), insert(list("a", name), null, null),
			{Kind: api.SqlSelect, Table: "t", Cols: list(name)}, {Kind: api.SqlSelect, Table: "t", Cols: list("a", name)},
			{Kind: api.SqlTable, Table: "t", Cols: list(name), Types: list(api.KInt)}, {Kind: api.SqlTable, Table: "t", Cols: list("a", name), Types: list(api.KInt, api.KInt)},
			{Kind: api.SqlAddIndex, Table: "t", Name: "i", Cols: list(name)}, {Kind: api.SqlAddIndex, Table: "t", Name: "i", Cols: list("a", name)},
		}
		silent(t, all...)
		silent(t, with(t, func(x *api.Stmt) { x.Table = name })...)
		for _, x := range with(t, func(x *api.Stmt) { x.Name = name }) {
			if name != "" || x.Kind == api.SqlAddIndex || x.Kind >= api.SqlDropIndex {
				silent(t, x)
			}
		}
	}
}

func TestValuesThatMayNotStand(t *testing.T) {
	var all []api.Value
	for _, kind := range []int{-1, 6, 7, math.MinInt, math.MaxInt} {
		all = append(all, api.Value{Kind: kind}, api.Value{Kind: kind, N: 1}, api.Value{Kind: kind, S: "a"})
	}
	all = append(all, api.Value{N: 1}, api.Value{F: 1}, api.Value{S: "a"}, api.Value{Kind: api.KBool, N: 2}, api.Value{Kind: api.KBool, N: -1}, api.Value{Kind: api.KBool, N: 1, F: 1}, api.Value{Kind: api.KBool, S: "true"},
		api.Value{Kind: api.KInt, N: 1, F: 1}, api.Value{Kind: api.KInt, S: "1"}, api.Value{Kind: api.KFloat, N: 1}, api.Value{Kind: api.KFloat, S: "0"}, api.Value{Kind: api.KText, N: 1}, api.Value{Kind: api.KText, S: "a", F: 1}, api.Value{Kind: api.KBytes, N: 1}, api.Value{Kind: api.KBytes, S: "a", F: 1},
		float(1<<63), float(0x7ff8000000000001), float(0xfff8000000000000), float(0x7ff0000000000001), float(math.MaxUint64),
		text(times(41, "a", "")), text(times(41, "'", "")), binary(times(41, "a", "")), binary(times(1<<20, "\x00", "")), text(times(1<<20, "'", "")))
	for c := range 256 {
		if c < 32 || c > 126 {
			all = append(all, text(string([]byte{byte(c)})), text("a"+string([]byte{byte(c)})+"b"))
		}
	}
	for _, v := range all {
		silent(t, insert(list("a"), v), insert(list("a"), null, v), insert(list("a"), v, null), update(list(set("a", v))), update(list(add("a", v))), update(list(set("a", null), set("b", v))), update(list(set("a", null)), cond("a", api.CondEq, v)),
			remove(cond("a", api.CondEq, v)), remove(cond("a", api.CondLt, v)), remove(cond("a", api.CondGt, v)), remove(cond("a", api.CondNull, v)), remove(cond("a", api.CondSome, v)), remove(cond("a", api.CondEq, null), cond("b", api.CondEq, v)),
			api.Stmt{Kind: api.SqlAddColumn, Table: "t", Name: "c", Type: api.KInt, Vals: list(v)}, api.Stmt{Kind: api.SqlSelect, Table: "t", Conds: list(cond("a", api.CondEq, v))})
	}
}

func TestEachByteOfAValue(t *testing.T) {
	for c := range 256 {
		s := string([]byte{byte(c)})
		writes(t, insert(list("a"), binary(s), text(s), binary(s+s), text("a"+s)))
		writes(t, insert(list("a"), binary(s), binary("'"+s)))
		writes(t, insert(list("a"), text(s), text(s+"'")))
	}
}

func TestConditionsThatAreNone(t *testing.T) {
	for _, sign := range []int{0, -1, 6, 7, math.MinInt, math.MaxInt} {
		silent(t, remove(cond("a", sign, null)), remove(cond("a", sign, integer(1))), remove(cond("a", api.CondEq, null), cond("a", sign, null)))
	}
	for _, v := range spellings() {
		if v != null {
			silent(t, remove(cond("a", api.CondNull, v)), remove(cond("a", api.CondSome, v)))
		}
	}
	silent(t, remove(api.Cond{}), remove(cond("a", api.CondEq, null), api.Cond{}))
}

func TestTypesThatAreNone(t *testing.T) {
	for _, kind := range []int{0, -1, 6, 7, math.MinInt, math.MaxInt} {
		silent(t, api.Stmt{Kind: api.SqlAddColumn, Table: "t", Name: "c", Type: kind}, api.Stmt{Kind: api.SqlAddColumn, Table: "t", Name: "c", Type: kind, Vals: list(null)},
			api.Stmt{Kind: api.SqlTable, Table: "t", Cols: list("a"), Types: list(kind)}, api.Stmt{Kind: api.SqlTable, Table: "t", Cols: list("a", "b"), Types: list(api.KInt, kind)})
	}
}

func TestListsOfUnlikeLength(t *testing.T) {
	for cols := range 12 {
		for types := range 12 {
			x := api.Stmt{Kind: api.SqlTable, Table: "t", Cols: slices.Repeat(list("a"), cols), Types: slices.Repeat(list(api.KInt), types)}
			if cols != types || cols == 0 || cols > 8 {
				silent(t, x)
			} else {
				writes(t, x)
			}
			// Of an insert's lists either may be longer.
			writes(t, insert(slices.Repeat(list("a"), cols), slices.Repeat(list(yes), types)...))
		}
	}
	c := api.Stmt{Kind: api.SqlAddColumn, Table: "t", Name: "c", Type: api.KInt}
	for n := 2; n <= 12; n++ {
		c.Vals = slices.Repeat(list(integer(1)), n)
		silent(t, c)
	}
}

func TestTooManyParts(t *testing.T) {
	for _, n := range []int{9, 10, 100, 1 << 16} {
		cols, vals := slices.Repeat(list("a"), n), slices.Repeat(list(null), n)
		silent(t, insert(cols, null), insert(list("a"), vals...), insert(cols, vals...), update(slices.Repeat(list(set("a", null)), n)), remove(slices.Repeat(list(cond("a", api.CondNull, null)), n)...),
			api.Stmt{Kind: api.SqlSelect, Table: "t", Cols: cols}, api.Stmt{Kind: api.SqlTable, Table: "t", Cols: cols, Types: slices.Repeat(list(api.KInt), n)}, api.Stmt{Kind: api.SqlAddIndex, Table: "t", Name: "i", Cols: cols})
	}
	silent(t, remove(slices.Repeat(list(cond("a", api.CondNull, null)), 5)...))
}

// 17.2: how long a text is

func TestHowLong(t *testing.T) {
	eight := slices.Repeat(list("a"), 8)
	for short := range 3 {
		x := insert(eight, slices.Repeat(list(text(strings.Repeat("x", 38))), 8)...)
		x.Vals[7].S = strings.Repeat("x", 40-short)
		x.Vals[0].S = strings.Repeat("x", 37)
		s, e := Text(x)
		if want := 401 - short; want > 400 && (s != "" || e != api.ErrForm) || want <= 400 && (len(s) != want || e != api.OK) {
			t.Errorf("17.2: a text of %d bytes: %d bytes, %d", want, len(s), e)
		}
		writes(t, x)
	}
	// What Parse tells of a text without blanks may be too long with them.
	s := "insert into t(" + times(8, "a", ",") + ")values(" + times(8, "'"+times(40, "x", "")+"'", ",") + ")"
	x, at, e := Parse(s)
	if len(s) > 400 || !alike(x, insert(eight, slices.Repeat(list(text(times(40, "x", ""))), 8)...)) || at != 0 || e != api.OK {
		t.Errorf("17.1: Parse(%q): %+v %d %d", s, x, at, e)
	}
	silent(t, x)
	silent(t, insert(eight, slices.Repeat(list(binary(times(40, "x", ""))), 8)...))
}

// R3: Text keeps nothing of what it is given, and turns nothing, spare room neither.
func TestWhatIsHandedInStays(t *testing.T) {
	for _, x := range stmts(t) {
		x.Cols, x.Vals, x.Sets = roomy(x.Cols, "z"), roomy(x.Vals, text("z")), roomy(x.Sets, add("z", yes))
		x.Conds, x.Types = roomy(x.Conds, cond("z", api.CondEq, yes)), roomy(x.Types, 9)
		was := plain(x)
		first, e := Text(x)
		again, wrong := Text(x)
		if first != again || e != wrong || e != api.OK {
			t.Errorf("R5: Text(%+v): %q %d, then %q %d", x, first, e, again, wrong)
		}
		if !alike(x, was) || stray(x.Cols, "z") || stray(x.Vals, text("z")) || stray(x.Sets, add("z", yes)) || stray(x.Conds, cond("z", api.CondEq, yes)) || stray(x.Types, 9) {
			t.Errorf("R3: Text has turned %+v to %+v", was, x)
		}
		turnAll(x.Cols, "b")
		turnAll(x.Vals, yes)
		if later, e := Text(was); later != first || e != api.OK {
			t.Errorf("R3: Text(%+v): %q %d, not %q", was, later, e, first)
		}
	}
}

// roomy is a list with spare room, in which other parts stand.
func roomy[T any](l []T, other T) []T {
	room := append(slices.Clone(l), other, other, other)
	return room[:len(l)]
}

// stray tells whether something else than other stands in a list's spare room.
func stray[T comparable](l []T, other T) bool {
	return slices.ContainsFunc(l[len(l):len(l)+3], func(x T) bool { return x != other })
}
