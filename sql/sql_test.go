package sql

import (
	"math"
	"reflect"
	"slices"
	"strings"
	"testing"

	"falsework/api"
)

const oneFloat = 0x3ff0000000000000

var (
	null = api.Value{}
	yes  = api.Value{Kind: api.KBool, N: 1}
	no   = api.Value{Kind: api.KBool}
)

func integer(n int64) api.Value                       { return api.Value{Kind: api.KInt, N: n} }
func float(f uint64) api.Value                        { return api.Value{Kind: api.KFloat, F: f} }
func binary(s string) api.Value                       { return api.Value{Kind: api.KBytes, S: s} }
func text(s string) api.Value                         { return api.Value{Kind: api.KText, S: s} }
func cond(col string, sign int, v api.Value) api.Cond { return api.Cond{Col: col, Sign: sign, V: v} }
func list[T any](all ...T) []T                        { return all }
func times(n int, part, between string) string {
	return strings.Join(slices.Repeat(list(part), n), between)
}
func set(col string, v api.Value) api.Set { return api.Set{Col: col, V: v} }
func add(col string, v api.Value) api.Set { return api.Set{Col: col, Add: true, V: v} }
func update(sets []api.Set, conds ...api.Cond) api.Stmt {
	return api.Stmt{Kind: api.SqlUpdate, Table: "t", Sets: sets, Conds: conds}
}
func remove(conds ...api.Cond) api.Stmt {
	return api.Stmt{Kind: api.SqlDelete, Table: "t", Conds: conds}
}
func insert(cols []string, vals ...api.Value) api.Stmt {
	return api.Stmt{Kind: api.SqlInsert, Table: "t", Cols: cols, Vals: vals}
}

// spellings are the values of each kind, and what they are written as.
func spellings() map[string]api.Value {
	return map[string]api.Value{
		"null": null, "true": yes, "false": no,
		"0": integer(0), "1": integer(1), "-1": integer(-1), "-5": integer(-5), "10": integer(10), "9223372036854775807": integer(math.MaxInt64), "-9223372036854775808": integer(math.MinInt64),
		"f'3ff0000000000000'": float(oneFloat), "f'0000000000000000'": float(0), "f'0000000000000001'": float(1), "f'bff0000000000000'": float(1<<63 | oneFloat),
		"f'7ff0000000000000'": float(0x7ff << 52), "f'fff0000000000000'": float(0xfff << 52), "f'7ff8000000000000'": float(0x7ff8000000000000), "f'000fedcba9876543'": float(0x000fedcba9876543),
		"x''": binary(""), "x'00'": binary("\x00"), "x'00ff'": binary("\x00\xff"), "x'0a27f0'": binary("\n'\xf0"), "x'" + strings.Repeat("9c", api.MaxText) + "'": binary(strings.Repeat("\x9c", api.MaxText)),
		"''": text(""), "'a'": text("a"), "' '": text(" "), "'it''s'": text("it's"), "''''": text("'"), "''''''": text("''"), "' '' '": text(" ' "), "'null'": text("null"), "'a , b ) ;'": text("a , b ) ;"), "'~A\"\\'": text("~A\"\\"),
		"'" + strings.Repeat("z", api.MaxText) + "'": text(strings.Repeat("z", api.MaxText)), "'" + strings.Repeat("''", api.MaxText) + "'": text(strings.Repeat("'", api.MaxText)),
	}
}

// types are the types, and what they are written as.
func types() map[string]int {
	return map[string]int{"bool": api.KBool, "int": api.KInt, "float": api.KFloat, "bytes": api.KBytes, "text": api.KText}
}

// tells asks Parse of s, as it is, with a sign at its end, and with more blanks.
func tells(t *testing.T, s string, want api.Stmt) {
	t.Helper()
	for _, s := range []string{s, s + ";", s + " ;", " " + s, "\n\t" + s + "\n", s + " \t; "} {
		if x, at, e := Parse(s); !reflect.DeepEqual(x, want) || at != 0 || e != api.OK {
			t.Errorf("17.1: Parse(%q): %+v %d %d, not %+v", s, x, at, e, want)
		}
	}
}

// both asks Parse of s, and Text of what it is to tell: s is the one form.
func both(t *testing.T, s string, x api.Stmt) {
	t.Helper()
	tells(t, s, x)
	if got, e := Text(x); got != s || e != api.OK {
		t.Errorf("17.2: Text(%+v): %q %d, not %q", x, got, e, s)
	}
	sameAgain(t, x, s)
}

// refuses asks Parse of s, whose first token that cannot stand there is at a place.
func refuses(t *testing.T, s string, place int) {
	t.Helper()
	if x, at, e := Parse(s); !reflect.DeepEqual(x, api.Stmt{}) || at != place || e != api.ErrForm {
		t.Errorf("17.1: Parse(%q): %+v %d %d, not ErrForm at %d", s, x, at, e, place)
	}
}

// refusesAt asks Parse of s, in which a `!` stands ahead of the first token that cannot stand there.
func refusesAt(t *testing.T, all ...string) {
	t.Helper()
	for _, s := range all {
		ahead, behind, ok := strings.Cut(s, "!")
		if !ok {
			t.Fatal("no place in", s)
		}
		refuses(t, ahead+behind, len(ahead))
		refuses(t, "\t "+ahead+behind, len(ahead)+2)
	}
}

// tooLong asks Parse of texts that have too many parts.
func tooLong(t *testing.T, all ...string) {
	t.Helper()
	for _, s := range all {
		for _, s := range []string{s, s + ";", " " + s} {
			if x, at, e := Parse(s); !reflect.DeepEqual(x, api.Stmt{}) || at != 0 || e != api.ErrLong {
				t.Errorf("17.1: Parse(%q): %+v %d %d, not ErrLong", s, x, at, e)
			}
		}
	}
}

// 17.1, 17.2: the document's examples

func TestExamples(t *testing.T) {
	both(t, "select * from t where a = 1", api.Stmt{Kind: api.SqlSelect, Table: "t", Conds: list(cond("a", api.CondEq, integer(1)))})
	x, at, e := Parse("drop index i on t;")
	if s, wrong := Text(x); s != "drop index i on t" || wrong != api.OK || at != 0 || e != api.OK {
		t.Errorf("17.2: Text of Parse: %q %d, of %d %d", s, wrong, at, e)
	}
}

// 17.1, 17.2: the ten forms

func TestInsert(t *testing.T) {
	both(t, "insert into t ( a ) values ( 1 )", insert(list("a"), integer(1)))
	both(t, "insert into t ( a , b ) values ( 1 , 'x' )", insert(list("a", "b"), integer(1), text("x")))
	both(t, "insert into t ( b , a , b ) values ( null )", insert(list("b", "a", "b"), null))
	both(t, "insert into t ( a ) values ( null , true , false )", insert(list("a"), null, yes, no))
	for s, v := range spellings() {
		both(t, "insert into t ( a ) values ( "+s+" )", insert(list("a"), v))
		both(t, "insert into t ( a , b ) values ( "+s+" , "+s+" )", insert(list("a", "b"), v, v))
	}
	both(t, "insert into sixteen_letters_ ( n123456789abcdef ) values ( 0 )", api.Stmt{Kind: api.SqlInsert, Table: "sixteen_letters_", Cols: list("n123456789abcdef"), Vals: list(integer(0))})
}

func TestUpdate(t *testing.T) {
	both(t, "update t set a = 1", update(list(set("a", integer(1)))))
	both(t, "update t set a = a + 1", update(list(add("a", integer(1)))))
	both(t, "update t set a = 1 , b = b + -2 , a = a + 3", update(list(set("a", integer(1)), add("b", integer(-2)), add("a", integer(3)))))
	both(t, "update t set a = 1 where a = 2", update(list(set("a", integer(1))), cond("a", api.CondEq, integer(2))))
	both(t, "update t set a = a + 1 , b = 2 where a = 2 and b is null", update(list(add("a", integer(1)), set("b", integer(2))), cond("a", api.CondEq, integer(2)), cond("b", api.CondNull, null)))
	for s, v := range spellings() {
		both(t, "update t set a = "+s, update(list(set("a", v))))
		both(t, "update t set a = a + "+s, update(list(add("a", v))))
		both(t, "update t set b = "+s+" , a = a + "+s+" where c = "+s, update(list(set("b", v), add("a", v)), cond("c", api.CondEq, v)))
	}
}

func TestSetsOfAnotherName(t *testing.T) {
	refusesAt(t,
		"update t set a = !b", "update t set a = !b + 1", "update t set a = !t", "update t set a = !aa + 1", "update t set aa = !a + 1", "update t set a = !a_ + 1",
		"update t set a = 1 , b = !a + 1", "update t set a = a + 1 , b = !a + 1", "update t set a = !b + c", "update t set a = !b + ,", "update t set a = !b where",
		"update t set a = a !", "update t set a = a !, b = 1", "update t set a = a !where a = 1", "update t set a = a !b", "update t set a = a + !a", "update t set a = a + !b",
		"update t set a = a + 1 !+ 1", "update t set a = 1 !+ a", "update t set a = 1 !+ 1", "update t set a = !( 1 )", "update t set a = a !a", "update t set a = a !-1", "update t set a = a + !+ 1", "update t set a = !+ 1", "update t set !null = 1")
}

func TestDelete(t *testing.T) {
	both(t, "delete from t", remove())
	both(t, "delete from t where a = 1", remove(cond("a", api.CondEq, integer(1))))
	both(t, "delete from t where a < 1 and a > 0", remove(cond("a", api.CondLt, integer(1)), cond("a", api.CondGt, integer(0))))
}

func TestSelect(t *testing.T) {
	both(t, "select * from t", api.Stmt{Kind: api.SqlSelect, Table: "t"})
	both(t, "select a from t", api.Stmt{Kind: api.SqlSelect, Table: "t", Cols: list("a")})
	both(t, "select b , a , b from t", api.Stmt{Kind: api.SqlSelect, Table: "t", Cols: list("b", "a", "b")})
	both(t, "select * from t where a is not null", api.Stmt{Kind: api.SqlSelect, Table: "t", Conds: list(cond("a", api.CondSome, null))})
	both(t, "select a , b from t where b = 'x' and a is null", api.Stmt{Kind: api.SqlSelect, Table: "t", Cols: list("a", "b"), Conds: list(cond("b", api.CondEq, text("x")), cond("a", api.CondNull, null))})
}

func TestConditions(t *testing.T) {
	for s, v := range spellings() {
		both(t, "delete from t where a = "+s, remove(cond("a", api.CondEq, v)))
		both(t, "delete from t where a < "+s, remove(cond("a", api.CondLt, v)))
		both(t, "delete from t where a > "+s, remove(cond("a", api.CondGt, v)))
	}
	both(t, "delete from t where a is null", remove(cond("a", api.CondNull, null)))
	both(t, "delete from t where a is not null", remove(cond("a", api.CondSome, null)))
	both(t, "delete from t where a is null and b is not null and c = null and a < null", remove(cond("a", api.CondNull, null), cond("b", api.CondSome, null), cond("c", api.CondEq, null), cond("a", api.CondLt, null)))
	refusesAt(t, "delete from t where !", "delete from t where !;", "delete from t where a !", "delete from t where a = !", "delete from t where a = !b", "delete from t where !1 = a", "delete from t where a !1",
		"delete from t where a < != 1", "delete from t where a = !< 1", "delete from t where a > !> 1", "delete from t where a !+ 1", "delete from t where a is !", "delete from t where a is not !", "delete from t where a is !1", "delete from t where a is !true",
		"delete from t where a is not !not null", "delete from t where a is not !false", "delete from t where a !not null", "delete from t where a !null", "delete from t where a is null !null", "delete from t where !null is null", "delete from t where a = 1 !, b = 2",
		"delete from t where a = 1 and !", "delete from t where a = 1 and !and b = 2", "delete from t where a = 1 !or b = 2", "delete from t where a = 1 !b = 2", "delete from t where a = 1 !where b = 2", "delete from t !and a = 1", "delete from t where !( a = 1 )", "delete from t where !not a = 1", "delete from t where a = !not_")
}

func TestCreateTable(t *testing.T) {
	for s, kind := range types() {
		both(t, "create table t ( a "+s+" primary key )", api.Stmt{Kind: api.SqlTable, Table: "t", Cols: list("a"), Types: list(kind)})
		both(t, "create table t ( a int primary key , b "+s+" , c "+s+" )", api.Stmt{Kind: api.SqlTable, Table: "t", Cols: list("a", "b", "c"), Types: list(api.KInt, kind, kind)})
	}
	both(t, "create table t ( k text primary key , b bool , f float , x bytes , i int )", api.Stmt{Kind: api.SqlTable, Table: "t", Cols: list("k", "b", "f", "x", "i"), Types: list(api.KText, api.KBool, api.KFloat, api.KBytes, api.KInt)})
	refusesAt(t, "create table !", "create table t !", "create table t !a int primary key", "create table t ( !", "create table t ( !)", "create table t ( a !)", "create table t ( a !a primary key )", "create table t ( a !null primary key )", "create table t ( a !primary key )", "create table t ( !int primary key )",
		"create table t ( a int !)", "create table t ( a int !, b int primary key )", "create table t ( a int primary !)", "create table t ( a int !key )", "create table t ( a int !key primary )", "create table t ( a int primary !primary key )", "create table t ( a int primary key !key )", "create table t ( a int primary key !", "create table t ( a int primary key , !)", "create table t ( a int primary key , b !)",
		"create table t ( a int primary key , b int !primary key )", "create table t ( a int primary key !b int )", "create table t ( a int primary key , b !, c int )", "create table t ( a int primary key , !, b int )", "create table t ( a int primary key ) !)", "create table t ( a int primary key , b int !not null )", "create table t ( a int primary key , b int !default 1 )", "create !unique_ index i on t ( a )", "create unique !table t ( a int primary key )", "create table t ( a int !not null primary key )")
}

func TestIndexes(t *testing.T) {
	both(t, "create index i on t ( a )", api.Stmt{Kind: api.SqlAddIndex, Table: "t", Name: "i", Cols: list("a")})
	both(t, "create unique index i on t ( a )", api.Stmt{Kind: api.SqlAddIndex, Table: "t", Name: "i", Cols: list("a"), Unique: true})
	both(t, "create index t on t ( b , a , b )", api.Stmt{Kind: api.SqlAddIndex, Table: "t", Name: "t", Cols: list("b", "a", "b")})
	both(t, "create unique index i on t ( a , b )", api.Stmt{Kind: api.SqlAddIndex, Table: "t", Name: "i", Cols: list("a", "b"), Unique: true})
	both(t, "drop index i on t", api.Stmt{Kind: api.SqlDropIndex, Table: "t", Name: "i"})
	refusesAt(t, "create !", "create !i", "create !indexes on t ( a )", "create unique !", "create unique !unique index i on t ( a )", "create index !", "create index !on t ( a )", "create index !unique i on t ( a )", "create index i !", "create index i !t ( a )", "create index i on !", "create index i on !( a )", "create index i on t !", "create index i on t !a", "create index i on t ( !)", "create index i on t ( a !", "create index i on t ( a !b )", "create index i on t ( a , !)", "create index i on t ( !* )", "create index i on t ( a !int )", "create index i on t ( !1 )", "create index i on t ( a ) !where a = 1",
		"drop !", "drop !i on t", "drop !table t", "drop !unique index i on t", "drop index !", "drop index !on t", "drop index i !", "drop index i !t", "drop index i !, j on t", "drop index i on !", "drop index i on t !( a )", "drop index i on t !t")
}

func TestAlter(t *testing.T) {
	for s, kind := range types() {
		both(t, "alter table t add column c "+s, api.Stmt{Kind: api.SqlAddColumn, Table: "t", Name: "c", Type: kind})
		for spelt, v := range spellings() {
			both(t, "alter table t add column c "+s+" default "+spelt, api.Stmt{Kind: api.SqlAddColumn, Table: "t", Name: "c", Type: kind, Vals: list(v)})
		}
	}
	both(t, "alter table t drop column c", api.Stmt{Kind: api.SqlDropColumn, Table: "t", Name: "c"})
	both(t, "alter table t alter column c set not null", api.Stmt{Kind: api.SqlSetNull, Table: "t", Name: "c"})
	both(t, "alter table t alter column c drop not null", api.Stmt{Kind: api.SqlDropNull, Table: "t", Name: "c"})
	refusesAt(t, "alter !", "alter !t add column c int", "alter !index i on t", "alter table !", "alter table !add column c int", "alter table t !", "alter table t !column c int", "alter table t !set column c not null", "alter table t !create column c int",
		"alter table t add !", "alter table t add !c int", "alter table t add column !", "alter table t add column !int", "alter table t add column c !", "alter table t add column c !c", "alter table t add column c !default 1", "alter table t add column c !null", "alter table t add column c int !int", "alter table t add column c int !1", "alter table t add column c int default !", "alter table t add column c int default !c", "alter table t add column c int default !default 1", "alter table t add column c int default 1 !2", "alter table t add column c int default 1 !default 1", "alter table t add column c int !not null", "alter table t add column c int !primary key", "alter table t add column c int !, d int",
		"alter table t drop !", "alter table t drop !c", "alter table t drop column !", "alter table t drop column c !int", "alter table t drop column c !, d", "alter table t drop !index i",
		"alter table t alter !", "alter table t alter !c set not null", "alter table t alter column !", "alter table t alter column !set not null", "alter table t alter column c !", "alter table t alter column c !not null", "alter table t alter column c !add not null", "alter table t alter column c !( set not null )", "alter table t alter column c set !", "alter table t alter column c set !null", "alter table t alter column c set not !", "alter table t alter column c set not !true", "alter table t alter column c set not null !null", "alter table t alter column c drop !null", "alter table t alter column c drop not !", "alter table t alter column c drop !column", "alter table t alter column c set !drop not null", "alter table t alter column c drop not null ; !;")
}

// 17.1: the first tokens that cannot stand there

func TestFirstWords(t *testing.T) {
	refusesAt(t, "!", "!;", "!a", "!1", "!*", "!selec", "!selects * from t", "!into t", "!from t", "!table t", "!null", "!( select * from t )", "!; select * from t", "!unique index i on t ( a )", "!begin", "!'select * from t'", "!where a = 1", "!set a = 1")
	for _, s := range allWords() {
		switch s {
		case "insert", "update", "delete", "select", "create", "drop", "alter":
			refusesAt(t, s+"!", s+" !"+s, s+" !;", s+" !1")
		default:
			refusesAt(t, "!"+s, "!"+s+" t")
		}
	}
}

func TestInsertFaults(t *testing.T) {
	refusesAt(t, "insert !t", "insert !values ( 1 )", "insert into !", "insert into !( a ) values ( 1 )", "insert into t !", "insert into t !values ( 1 )", "insert into t !a", "insert into t ( !", "insert into t ( !) values ( 1 )", "insert into t ( a !", "insert into t ( a !b ) values ( 1 )", "insert into t ( a , !) values ( 1 )", "insert into t ( a !; )", "insert into t ( !, a ) values ( 1 )",
		"insert into t ( !1 ) values ( 1 )", "insert into t ( !* ) values ( 1 )", "insert into t ( a ) !", "insert into t ( a ) !( 1 )", "insert into t ( a ) !value ( 1 )", "insert into t ( a ) values !", "insert into t ( a ) values !1", "insert into t ( a ) values ( !", "insert into t ( a ) values ( !)", "insert into t ( a ) values ( !a )", "insert into t ( a ) values ( 1 !", "insert into t ( a ) values ( 1 !1 )", "insert into t ( a ) values ( 1 , !)", "insert into t ( a ) values ( 1 ) !, ( 2 )", "insert into t ( a ) values ( !default )", "insert into t ( a ) values ( 1 ) !where a = 1", "insert into t ( a ) values ( 1 !+ 1 )", "insert into t ( a ) values ( !( 1 ) )", "insert into t ( a ) values ( 1 ) !)")
}

func TestOtherFaults(t *testing.T) {
	refusesAt(t, "update !", "update !set a = 1", "update t !", "update t !a = 1", "update t !where a = 1", "update t set !", "update t set != 1", "update t set !1 = 1", "update t set a !", "update t set a !1", "update t set a !< 1", "update t set a = !", "update t set a = !, b = 1", "update t set a = !where a = 1", "update t set a = !set", "update t set a = 1 !b = 1", "update t set a = 1 !and b = 1", "update t set a = 1 , !", "update t set a = 1 , !where a = 1", "update t set a = 1 !set b = 1", "update t set !( a ) = 1", "update !into t",
		"delete !", "delete !t", "delete !* from t", "delete from !", "delete from !where a = 1", "delete from t !t", "delete from t !set", "delete from t !, u", "delete from !from t", "delete from !*",
		"select !", "select !from t", "select !1 from t", "select * !", "select * !, a from t", "select * !a from t", "select * !* from t", "select a !* from t", "select a !", "select a , !", "select a , !from t", "select a , !* from t", "select a !b from t", "select !( a ) from t", "select * from !", "select * from t !t", "select * from t !, u", "select * from t !set a = 1", "select * from t !and a = 1", "select * from t where !", "select !null from t", "select a !where a = 1 from t", "select * from !t_t_t_t_t_t_t_t_t")
}

func TestAWordWhereANameMustBe(t *testing.T) {
	for _, w := range allWords() {
		refusesAt(t, "insert into !"+w+" ( a ) values ( 1 )", "insert into t ( !"+w+" ) values ( 1 )", "insert into t ( a , !"+w+" ) values ( 1 )", "update !"+w+" set a = 1", "update t set !"+w+" = 1", "update t set a = 1 , !"+w+" = 1", "update t set a = 1 where !"+w+" = 1",
			"delete from !"+w, "delete from t where !"+w+" = 1", "delete from t where a = 1 and !"+w+" is null", "select !"+w+" from t", "select a , !"+w+" from t", "select * from !"+w, "create table !"+w+" ( a int primary key )", "create table t ( !"+w+" int primary key )", "create table t ( a int primary key , !"+w+" int )",
			"create index !"+w+" on t ( a )", "create index i on !"+w+" ( a )", "create index i on t ( !"+w+" )", "create index i on t ( a , !"+w+" )", "drop index !"+w+" on t", "drop index i on !"+w, "alter table !"+w+" drop column c", "alter table t add column !"+w+" int", "alter table t drop column !"+w, "alter table t alter column !"+w+" set not null")
		// With a byte more it is a name.
		both(t, "delete from "+w+"_", api.Stmt{Kind: api.SqlDelete, Table: w + "_"})
	}
}

// 17.1: the end

func TestTheEnd(t *testing.T) {
	for _, s := range samples() {
		x, _, e := Parse(s)
		if e == api.ErrLong {
			continue
		}
		tells(t, s, x)
		refusesAt(t, s+";!;", s+" ; !; ", s+";!a", s+" ; !select * from t", s+";!1", s+"; !)", s+" !)", s+" !=", s+" !select", s+" !'a'")
		tokens := splitTokens(t, s)
		for i := 1; i < len(tokens); i++ {
			_, at, e := Parse(strings.Join(tokens[:i], " ") + " ; " + strings.Join(tokens[i:], " "))
			// A whole statement may end ahead of the sign: then it is what stands behind that cannot.
			ahead := len(strings.Join(tokens[:i], " ")) + 1
			if _, _, whole := Parse(strings.Join(tokens[:i], " ")); whole == api.OK {
				ahead += 2
			}
			if at != ahead || e != api.ErrForm {
				t.Errorf("17.1: %q with ; ahead of %q: %d %d, not %d", s, tokens[i], at, e, ahead)
			}
		}
	}
}

func TestBlanks(t *testing.T) {
	want := insert(list("a", "b"), integer(1), text("it's"))
	tells(t, "insert into t(a,b)values(1,'it''s')", want)
	tells(t, "insert\ninto\tt\n(\ta ,b\n)values (1\t, 'it''s'\n)", want)
	tells(t, "  insert  into  t  (  a  ,  b  )  values  (  1  ,  'it''s'  )  ", want)
	tells(t, "update t set a=a+-1,b='x'where a<1 and b>x'00'and c is null", update(list(add("a", integer(-1)), set("b", text("x"))), cond("a", api.CondLt, integer(1)), cond("b", api.CondGt, binary("\x00")), cond("c", api.CondNull, null)))
	tells(t, "select*from t where a=-5", api.Stmt{Kind: api.SqlSelect, Table: "t", Conds: list(cond("a", api.CondEq, integer(-5)))})
	tells(t, "select a,b from t where a='and'and b=''", api.Stmt{Kind: api.SqlSelect, Table: "t", Cols: list("a", "b"), Conds: list(cond("a", api.CondEq, text("and")), cond("b", api.CondEq, text("")))})
	tells(t, "create table t(a int primary key,b text)", api.Stmt{Kind: api.SqlTable, Table: "t", Cols: list("a", "b"), Types: list(api.KInt, api.KText)})
	tells(t, "create unique index i on t(a,b)", api.Stmt{Kind: api.SqlAddIndex, Table: "t", Name: "i", Cols: list("a", "b"), Unique: true})
	// Without the blank these are others.
	refusesAt(t, "!insertinto t ( a ) values ( 1 )", "select * !fromt", "update t set a = a !-1", "delete from t where a !isnull", "drop !indexi on t", "update t !seta = 1")
}

// 17.1: layer 16's errors

func TestTokensThatAreNone(t *testing.T) {
	refusesAt(t, "!A", "select !A from t", "select * from t where a = !'b", "select * from t where a = !05", "select * from t where a = !5a", "select * from t where a = !x'0'", "select * from t where a = !f'00'", "select * from !"+times(17, "n", ""), "select * from t !\r", "select * from t;!\x00", "select * from t where a = !-", "select * from t where a !- 1", "select * from t where a = !'"+times(41, "z", "")+"'", "select * from t where a !/ 1", "select * from t where a = 1!.5", "select * from t where a = !9223372036854775808")
	// They count ahead of each other fault, wherever they stand.
	refusesAt(t, "selec !A", "; ; !A", "select * from t t !A", "a !A b", "!A selec", "select !A , , from", "insert insert !'", "update t set a = b + !00", "select "+times(9, "a", ",")+" from t !A", "delete from t where "+times(5, "a = 1", " and ")+" !_")
}

func TestTooLongATextFirst(t *testing.T) {
	for _, s := range []string{times(401, " ", ""), times(401, "A", ""), times(401, "(", ""), "select * from t" + times(386, " ", ""), "selec" + times(396, " ", ""), "select " + times(9, "a", ",") + " from t" + times(400, " ", ""), times(1<<20, "select ", "")} {
		if x, at, e := Parse(s); !reflect.DeepEqual(x, api.Stmt{}) || at != 0 || e != api.ErrLong {
			t.Errorf("17.1: Parse of %d bytes: %+v %d %d", len(s), x, at, e)
		}
	}
	x, at, e := Parse("select * from t" + times(385, " ", ""))
	if !reflect.DeepEqual(x, api.Stmt{Kind: api.SqlSelect, Table: "t"}) || at != 0 || e != api.OK {
		t.Errorf("17.1: Parse of 400 bytes: %+v %d %d", x, at, e)
	}
	refuses(t, "select * from t"+times(384, " ", "")+"t", 399)
	refuses(t, "select * from"+times(387, " ", ""), 400)
	refuses(t, times(400, " ", ""), 400)
}

// 17.1: how many

func TestHowMany(t *testing.T) {
	for n := 1; n <= api.MaxCols+3; n++ {
		texts := []string{
			"insert into t ( " + times(n, "a", " , ") + " ) values ( 1 )",
			"insert into t ( a ) values ( " + times(n, "null", " , ") + " )",
			"insert into t ( " + times(n, "a", " , ") + " ) values ( " + times(n, "1", " , ") + " )",
			"update t set " + times(n, "a = 1", " , "),
			"update t set " + times(n, "a = a + 1", " , ") + " where a = 1",
			"select " + times(n, "a", " , ") + " from t",
			"select " + times(n, "a", " , ") + " from t where a is null",
			"create table t ( a int primary key" + strings.Repeat(" , b text", n-1) + " )",
			"create index i on t ( " + times(n, "a", " , ") + " )",
			"create unique index i on t ( " + times(n, "a", " , ") + " )",
		}
		wants := []api.Stmt{
			insert(slices.Repeat(list("a"), n), integer(1)),
			insert(list("a"), slices.Repeat(list(null), n)...),
			insert(slices.Repeat(list("a"), n), slices.Repeat(list(integer(1)), n)...),
			update(slices.Repeat(list(set("a", integer(1))), n)),
			update(slices.Repeat(list(add("a", integer(1))), n), cond("a", api.CondEq, integer(1))),
			{Kind: api.SqlSelect, Table: "t", Cols: slices.Repeat(list("a"), n)},
			{Kind: api.SqlSelect, Table: "t", Cols: slices.Repeat(list("a"), n), Conds: list(cond("a", api.CondNull, null))},
			{Kind: api.SqlTable, Table: "t", Cols: append(list("a"), slices.Repeat(list("b"), n-1)...), Types: append(list(api.KInt), slices.Repeat(list(api.KText), n-1)...)},
			{Kind: api.SqlAddIndex, Table: "t", Name: "i", Cols: slices.Repeat(list("a"), n)},
			{Kind: api.SqlAddIndex, Table: "t", Name: "i", Cols: slices.Repeat(list("a"), n), Unique: true},
		}
		for i, s := range texts {
			manyOf(t, s, wants[i], n <= 8)
		}
	}
}

func TestHowManyConditions(t *testing.T) {
	for n := 1; n <= api.MaxConds+3; n++ {
		conds := slices.Repeat(list(cond("a", api.CondSome, null)), n)
		where := " where " + times(n, "a is not null", " and ")
		manyOf(t, "delete from t"+where, remove(conds...), n <= 4)
		manyOf(t, "update t set a = 1"+where, update(list(set("a", integer(1))), conds...), n <= 4)
		manyOf(t, "select * from t"+where, api.Stmt{Kind: api.SqlSelect, Table: "t", Conds: conds}, n <= 4)
		manyOf(t, "select "+times(8, "a", " , ")+" from t"+where, api.Stmt{Kind: api.SqlSelect, Table: "t", Cols: slices.Repeat(list("a"), 8), Conds: conds}, n <= 4)
	}
}

// manyOf asks Parse of s, and Text of x, which have many parts.
func manyOf(t *testing.T, s string, x api.Stmt, may bool) {
	t.Helper()
	if may {
		both(t, s, x)
		return
	}
	tooLong(t, s)
	// ErrForm counts ahead of it, wherever it stands.
	refusesAt(t, s+" !t", s+" ; !;", s+" !(", s+" !)", s+" !A")
	silent(t, x)
}

func TestFaultsAheadOfTooMany(t *testing.T) {
	nine := times(9, "a", ",")
	refusesAt(t, "select "+nine+" !", "select "+nine+",!", "select "+nine+" from !", "insert into t ("+nine+") values (!)", "insert into t ("+nine+")!", "insert into t (a !a,"+nine+") values (1)", "update t set "+times(9, "a=1", ",")+",b=!a+1", "delete from t where "+times(5, "a=1", " and ")+" and !", "create index i on t ("+nine+"!", "create table t (a int primary key"+times(9, ",b int", "")+",c!)")
	tooLong(t, "insert into t ("+nine+") values ("+times(9, "1", ",")+")", "select "+nine+" from t where "+times(5, "a=1", " and "), "update t set "+times(9, "a=a+1", ",")+" where "+times(5, "a=1", " and "), "select "+times(190, "a", ",")+" from t")
}

// The rules of all calls

func TestWhatIsToldIsNew(t *testing.T) {
	for _, s := range samples() {
		was, at, e := Parse(s)
		kept := plain(was)
		other, again, wrong := Parse(s)
		if !reflect.DeepEqual(was, other) || at != again || e != wrong {
			t.Errorf("R5: Parse(%q): %+v, then %+v", s, was, other)
		}
		for _, x := range []api.Stmt{other, plain(was)} {
			turnAll(x.Cols, "z")
			turnAll(x.Vals, text("z"))
			turnAll(x.Sets, add("z", yes))
			turnAll(x.Conds, cond("z", 9, yes))
			turnAll(x.Types, 9)
		}
		third, _, _ := Parse(s)
		if !alike(was, kept) || !alike(third, kept) {
			t.Errorf("R3: Parse(%q): %+v and %+v, not %+v", s, was, third, kept)
		}
	}
}

// turnAll writes into a list, and behind it.
func turnAll[T any](l []T, by T) {
	for i := range l[:cap(l)] {
		l[:cap(l)][i] = by
	}
}
