package pred

import (
	"math"
	"slices"
	"strings"
	"testing"

	"falsework/api"
)

const (
	one64  = 0x3ff0000000000000
	inf    = 0x7ff0000000000000
	oneNaN = 0x7ff8000000000000
	minus  = 1 << 63
)

func boolean(n int64) api.Value { return api.Value{Kind: api.KBool, N: n} }
func integer(n int64) api.Value { return api.Value{Kind: api.KInt, N: n} }
func float(f uint64) api.Value  { return api.Value{Kind: api.KFloat, F: f} }
func bin(s string) api.Value    { return api.Value{Kind: api.KBytes, S: s} }
func text(s string) api.Value   { return api.Value{Kind: api.KText, S: s} }

func col(name string, kind int) api.Column {
	return api.Column{Name: name, Kind: kind, State: api.Public}
}

func state(c api.Column, s int) api.Column {
	c.State = s
	return c
}

func cond(col string, sign int, v api.Value) api.Cond {
	return api.Cond{Col: col, Sign: sign, V: v}
}

// ab are two columns of ints.
func ab() []api.Column { return []api.Column{col("a", api.KInt), col("b", api.KInt)} }

// signs are all that may be.
func signs() []int {
	return []int{api.CondEq, api.CondLt, api.CondGt, api.CondNull, api.CondSome}
}

func kinds() []int {
	return []int{api.KNull, api.KBool, api.KInt, api.KFloat, api.KBytes, api.KText}
}

// some is a value of each kind.
func some(kind int) api.Value {
	return []api.Value{{}, boolean(1), integer(1), float(one64), bin("b"), text("t")}[kind]
}

// checks asks Check, and Test of as many values as columns, which has nothing to tell beside an error.
func checks(t *testing.T, want api.Errno, cols []api.Column, conds ...api.Cond) {
	t.Helper()
	if e := Check(cols, conds); e != want {
		t.Fatalf("18.1: Check(%+v, %+v): %d, not %d", cols, conds, e, want)
	}
	v, e := Test(cols, make([]api.Value, len(cols)), conds)
	if e != want || e != api.OK && v != 0 {
		t.Fatalf("18.2: Test(%+v, nulls, %+v): %d %d, not the error %d", cols, conds, v, e, want)
	}
}

// answers asks Test, and Check, which has nothing against it.
func answers(t *testing.T, want int, cols []api.Column, vals []api.Value, conds ...api.Cond) {
	t.Helper()
	if v, e := Test(cols, vals, conds); v != want || e != api.OK {
		t.Fatalf("18.2: Test(%+v, %+v, %+v): %d %d, not %d", cols, vals, conds, v, e, want)
	}
	if e := Check(cols, conds); e != api.OK {
		t.Fatalf("18.1: Check(%+v, %+v): %d", cols, conds, e)
	}
}

// asks holds one value against V, in a row of one column of V's kind.
func asks(t *testing.T, want int, v api.Value, sign int, against api.Value) {
	t.Helper()
	kind := against.Kind
	if kind == api.KNull {
		kind = v.Kind
	}
	answers(t, want, []api.Column{col("a", kind)}, []api.Value{v}, cond("a", sign, against))
}

// The document's examples

func TestExamples(t *testing.T) {
	for _, v := range []api.Value{{}, integer(0), integer(1)} {
		answers(t, -1, ab(), []api.Value{v, integer(1)}, cond("a", api.CondEq, api.Value{}))
	}
	answers(t, 0, ab(), []api.Value{{}, integer(2)}, cond("a", api.CondNull, api.Value{}), cond("b", api.CondEq, integer(1)))
	answers(t, 1, ab(), []api.Value{{}, integer(1)}, cond("a", api.CondNull, api.Value{}), cond("b", api.CondEq, integer(1)))
	answers(t, -1, ab(), []api.Value{{}, {}}, cond("a", api.CondNull, api.Value{}), cond("b", api.CondEq, integer(1)))
}

// 18.1: names

func TestNames(t *testing.T) {
	for _, c := range ab() {
		checks(t, api.OK, ab(), cond(c.Name, api.CondEq, integer(1)))
	}
	for _, name := range []string{"", "c", "A", "aa", "ab", "a ", " a", "a\x00", "\x00a", "b\xff", "select", strings.Repeat("a", 1000)} {
		checks(t, api.ErrName, ab(), cond(name, api.CondEq, integer(1)))
	}
	checks(t, api.OK, []api.Column{col("", api.KInt)}, cond("", api.CondEq, integer(1)))
	checks(t, api.OK, []api.Column{col("ab", api.KText), col("a", api.KInt)}, cond("a", api.CondEq, integer(1)))
	checks(t, api.ErrName, []api.Column{col("ab", api.KInt)}, cond("a", api.CondEq, integer(1)))
}

func TestStates(t *testing.T) {
	a := col("a", api.KInt)
	for _, s := range []int{api.Absent, api.DeleteOnly, api.WriteOnly, api.Filled, -1, api.Public + 1, math.MinInt, math.MaxInt} {
		checks(t, api.ErrName, []api.Column{state(a, s)}, cond("a", api.CondEq, integer(1)))
		checks(t, api.ErrName, []api.Column{state(a, s)}, cond("a", api.CondNull, api.Value{}))
		checks(t, api.ErrName, []api.Column{state(a, s), state(a, s), col("b", api.KInt)}, cond("a", api.CondEq, integer(1)))
	}
}

// How far a column's rule is that it must not be null has no part in it.
func TestRuleOfNull(t *testing.T) {
	for _, s := range []int{api.Absent, api.DeleteOnly, api.WriteOnly, api.Filled, api.Public} {
		a := col("a", api.KInt)
		a.Null = s
		checks(t, api.OK, []api.Column{a}, cond("a", api.CondEq, integer(1)))
		answers(t, 1, []api.Column{a}, []api.Value{{}}, cond("a", api.CondNull, api.Value{}))
		checks(t, api.ErrName, []api.Column{state(a, api.Filled)}, cond("a", api.CondEq, integer(1)))
	}
}

func TestFirstPublic(t *testing.T) {
	ints, texts := col("a", api.KInt), col("a", api.KText)
	for _, s := range []int{api.Absent, api.DeleteOnly, api.WriteOnly, api.Filled} {
		for _, cols := range [][]api.Column{
			{state(texts, s), ints}, {state(texts, s), ints, texts}, {state(texts, s), state(texts, s), col("b", api.KText), ints, texts},
			{ints, state(texts, s)}, {ints, texts, state(texts, s)}, {ints, state(texts, s), ints},
		} {
			checks(t, api.OK, cols, cond("a", api.CondEq, integer(1)))
			checks(t, api.ErrType, cols, cond("a", api.CondEq, text("t")))
			// Of the values, too, it is this one's.
			vals := slices.Repeat([]api.Value{integer(2)}, len(cols))
			vals[slices.IndexFunc(cols, func(c api.Column) bool { return c.State == api.Public && c.Name == "a" })] = integer(1)
			answers(t, 1, cols, vals, cond("a", api.CondEq, integer(1)))
			answers(t, 0, cols, vals, cond("a", api.CondEq, integer(2)))
		}
	}
}

// 18.1: signs and values

func TestSigns(t *testing.T) {
	for _, s := range signs() {
		checks(t, api.OK, ab(), cond("a", s, integer(1)))
		checks(t, api.OK, ab(), cond("b", s, api.Value{}))
	}
	for _, s := range []int{api.CondEq - 1, api.CondSome + 1, -1, 7, 256 + api.CondEq, 1<<32 + api.CondEq, math.MinInt, math.MaxInt} {
		checks(t, api.ErrArg, ab(), cond("a", s, integer(1)))
		checks(t, api.ErrArg, ab(), cond("b", s, api.Value{}))
	}
}

// wrongs are values that may not be.
func wrongs() []api.Value {
	all := []api.Value{
		{N: 1}, {N: -1}, {F: 1}, {F: one64}, {S: "a"}, {S: "\x00"},
		boolean(2), boolean(-1), boolean(math.MinInt64), boolean(math.MaxInt64),
		{Kind: api.KBool, F: 1}, {Kind: api.KBool, N: 1, F: one64}, {Kind: api.KBool, S: "a"},
		{Kind: api.KInt, F: 1}, {Kind: api.KInt, N: 1, F: one64}, {Kind: api.KInt, S: "a"}, {Kind: api.KInt, N: 1, S: "\x00"},
		{Kind: api.KFloat, N: 1}, {Kind: api.KFloat, F: one64, N: -1}, {Kind: api.KFloat, S: "a"},
		float(minus), float(oneNaN + 1), float(oneNaN | minus), float(inf + 1), float(minus | (inf + 1)), float(0x7fffffffffffffff), float(math.MaxUint64),
	}
	for _, k := range []int{api.KBytes, api.KText} {
		all = append(all, api.Value{Kind: k, N: 1}, api.Value{Kind: k, S: "a", N: -1}, api.Value{Kind: k, F: 1}, api.Value{Kind: k, S: "a", F: one64},
			api.Value{Kind: k, S: strings.Repeat("a", 41)}, api.Value{Kind: k, S: strings.Repeat("\x00", 41)}, api.Value{Kind: k, S: strings.Repeat("a", 5000)})
	}
	for _, k := range []int{-1, api.KText + 1, 9, 256, math.MinInt, math.MaxInt} {
		all = append(all, api.Value{Kind: k}, api.Value{Kind: k, N: 1})
	}
	return all
}

func TestWrongValues(t *testing.T) {
	for _, v := range wrongs() {
		for _, s := range signs() {
			for _, k := range kinds() {
				checks(t, api.ErrArg, []api.Column{col("a", k)}, cond("a", s, v))
			}
			checks(t, api.ErrArg, []api.Column{col("a", v.Kind)}, cond("a", s, v))
		}
	}
}

func TestValuesAtTheEdge(t *testing.T) {
	for _, v := range []api.Value{boolean(0), boolean(1), integer(math.MinInt64), integer(math.MaxInt64), float(0), float(oneNaN), float(inf), float(inf | minus), float(1), float(minus | 1),
		bin(""), bin(strings.Repeat("\x00", 40)), bin(strings.Repeat("\xff", 40)), text(""), text(strings.Repeat("a", 40)), text("\xff\x00'")} {
		for _, s := range signs() {
			checks(t, api.OK, []api.Column{col("a", v.Kind)}, cond("a", s, v))
		}
	}
}

func TestKinds(t *testing.T) {
	for _, k := range []int{api.KNull, api.KBool, api.KInt, api.KFloat, api.KBytes, api.KText, -1, 6, 99} {
		for _, s := range signs() {
			checks(t, api.OK, []api.Column{col("a", k)}, cond("a", s, api.Value{}))
			for _, of := range kinds()[1:] {
				want := api.ErrType
				if of == k {
					want = api.OK
				}
				checks(t, want, []api.Column{col("a", k)}, cond("a", s, some(of)))
				checks(t, want, []api.Column{col("b", of), col("a", k)}, cond("a", s, some(of)))
			}
		}
	}
}

// 18.1: which error of several

// bads are conditions on columns a and b, each wrong in one way.
func bads() []struct {
	c api.Cond
	e api.Errno
} {
	return []struct {
		c api.Cond
		e api.Errno
	}{
		{cond("q", api.CondEq, integer(1)), api.ErrName},
		{cond("a", 0, integer(1)), api.ErrArg},
		{cond("a", api.CondSome+1, api.Value{}), api.ErrArg},
		{cond("b", api.CondEq, float(minus)), api.ErrArg},
		{cond("b", api.CondNull, api.Value{N: 1}), api.ErrArg},
		{cond("a", api.CondEq, text("1")), api.ErrType},
		{cond("b", api.CondSome, boolean(1)), api.ErrType},
	}
}

func TestFirstCondition(t *testing.T) {
	fine := cond("a", api.CondEq, integer(1))
	for _, x := range bads() {
		checks(t, x.e, ab(), x.c)
		checks(t, x.e, ab(), fine, x.c)
		checks(t, x.e, ab(), x.c, fine)
		checks(t, x.e, ab(), fine, fine, fine, x.c, fine)
		for _, y := range bads() {
			checks(t, x.e, ab(), x.c, y.c)
			checks(t, x.e, ab(), fine, x.c, y.c)
			checks(t, x.e, ab(), x.c, fine, y.c, fine)
		}
	}
}

func TestWrongInTwoWays(t *testing.T) {
	for _, v := range append(wrongs(), boolean(1), text("a")) {
		for _, s := range []int{0, api.CondEq, api.CondNull, 6} {
			checks(t, api.ErrName, ab(), cond("q", s, v))
			checks(t, api.ErrName, nil, cond("a", s, v))
			checks(t, api.ErrName, []api.Column{state(col("a", api.KInt), api.Filled)}, cond("a", s, v))
		}
		for _, s := range []int{0, 6} {
			checks(t, api.ErrArg, ab(), cond("a", s, v))
		}
	}
	// May not be, and of another kind.
	checks(t, api.ErrArg, ab(), cond("a", api.CondEq, boolean(2)))
	checks(t, api.ErrArg, ab(), cond("a", api.CondEq, text(strings.Repeat("a", 41))))
	checks(t, api.ErrArg, ab(), cond("a", api.CondEq, api.Value{Kind: 9}))
}

func TestNone(t *testing.T) {
	checks(t, api.OK, nil)
	checks(t, api.OK, []api.Column{})
	checks(t, api.OK, ab())
	checks(t, api.ErrName, nil, cond("a", api.CondEq, integer(1)))
	checks(t, api.ErrName, []api.Column{}, cond("", api.CondNull, api.Value{}))
	for _, conds := range [][]api.Cond{nil, {}} {
		for _, cols := range [][]api.Column{nil, {}} {
			for _, vals := range [][]api.Value{nil, {}} {
				answers(t, 1, cols, vals, conds...)
			}
		}
	}
}

func TestMany(t *testing.T) {
	// No chapter bounds how many conditions or columns there are here.
	var cols []api.Column
	var vals []api.Value
	var conds []api.Cond
	for i := range 60 {
		name := "c" + strings.Repeat("x", i)
		cols = append(cols, col(name, api.KInt))
		vals = append(vals, integer(int64(i)))
		conds = append(conds, cond(name, api.CondEq, integer(int64(i))))
	}
	answers(t, 1, cols, vals, conds...)
	conds[59].V = integer(58)
	answers(t, 0, cols, vals, conds...)
	conds[59].V = api.Value{}
	answers(t, -1, cols, vals, conds...)
	conds[59].V = text("a")
	checks(t, api.ErrType, cols, conds...)
}

// 18.2: how many values

func TestCount(t *testing.T) {
	fine := cond("a", api.CondEq, integer(1))
	for n := range 6 {
		vals := slices.Repeat([]api.Value{integer(1)}, n)
		for _, conds := range [][]api.Cond{nil, {fine}, {cond("b", api.CondNull, api.Value{}), fine}} {
			if v, e := Test(ab(), vals, conds); n != 2 && (v != 0 || e != api.ErrArg) || n == 2 && e != api.OK {
				t.Errorf("18.2: %d values of 2 columns, %+v: %d %d", n, conds, v, e)
			}
		}
		for _, x := range bads() {
			if v, e := Test(ab(), vals, []api.Cond{fine, x.c}); v != 0 || e != x.e {
				t.Errorf("18.2: %d values of 2 columns, %+v: %d %d, not Check's error %d", n, x.c, v, e, x.e)
			}
		}
		if v, e := Test(nil, vals, nil); n != 0 && (v != 0 || e != api.ErrArg) {
			t.Errorf("18.2: %d values of no columns: %d %d", n, v, e)
		}
	}
	if v, e := Test(ab(), nil, nil); v != 0 || e != api.ErrArg {
		t.Errorf("18.2: no values of 2 columns: %d %d", v, e)
	}
	// Columns that are not Public have their values, too.
	cols := []api.Column{state(col("h", api.KInt), api.Filled), col("a", api.KInt)}
	answers(t, 1, cols, []api.Value{integer(7), integer(1)}, fine)
	if v, e := Test(cols, []api.Value{integer(1)}, []api.Cond{fine}); v != 0 || e != api.ErrArg {
		t.Errorf("18.2: one value of 2 columns, of which one is Public: %d %d", v, e)
	}
}

// 18.2: one condition

// rising are values of each kind, each above the one ahead of it.
func rising() [][]api.Value {
	return [][]api.Value{
		{boolean(0), boolean(1)},
		{integer(math.MinInt64), integer(-256), integer(-1), integer(0), integer(1), integer(255), integer(256), integer(math.MaxInt64)},
		{float(minus | inf), float(minus | one64), float(minus | 1), float(0), float(1), float(one64), float(one64 + 1), float(inf - 1), float(inf), float(oneNaN)},
		{bin(""), bin("\x00"), bin("\x00\x00"), bin("\x00\x01"), bin("\x00\xff"), bin("\x01"), bin("a"), bin("a\x00"), bin("aa"), bin("b"), bin("\xff"), bin(strings.Repeat("\xff", 40))},
		{text(""), text(" "), text("''"), text("A"), text("a"), text("a "), text("aa"), text("ab"), text("b"), text(strings.Repeat("z", 39)), text(strings.Repeat("z", 40))},
	}
}

func TestOneCondition(t *testing.T) {
	for _, all := range rising() {
		for i, v := range all {
			for j, against := range all {
				asks(t, lies(false, i == j), v, api.CondEq, against)
				asks(t, lies(false, i < j), v, api.CondLt, against)
				asks(t, lies(false, i > j), v, api.CondGt, against)
				asks(t, 0, v, api.CondNull, against)
				asks(t, 1, v, api.CondSome, against)
			}
		}
	}
}

func TestNull(t *testing.T) {
	for _, k := range kinds() {
		for _, s := range signs()[:3] {
			asks(t, -1, some(k), s, api.Value{})
			asks(t, -1, api.Value{}, s, some(k))
		}
		asks(t, 1, api.Value{}, api.CondNull, some(k))
		asks(t, 0, api.Value{}, api.CondSome, some(k))
		if k == api.KNull {
			continue
		}
		for _, against := range []api.Value{{}, some(k)} {
			asks(t, 0, some(k), api.CondNull, against)
			asks(t, 1, some(k), api.CondSome, against)
		}
	}
	// What a bool, an int, a float, a text has when it is zero is no null.
	for _, v := range []api.Value{boolean(0), integer(0), float(0), bin(""), text("")} {
		asks(t, 0, v, api.CondNull, api.Value{})
		asks(t, 1, v, api.CondSome, api.Value{})
		asks(t, 1, v, api.CondEq, v)
	}
}

// A row's value is asked as it is: layer 2's Cmp tells where it lies, be it of another kind than its column, and 0 of one that may not be.
func TestOtherValues(t *testing.T) {
	for _, of := range kinds()[1:] {
		cols := []api.Column{col("a", of)}
		for _, k := range kinds()[1:] {
			if k == of {
				continue
			}
			answers(t, 0, cols, []api.Value{some(k)}, cond("a", api.CondEq, some(of)))
			answers(t, lies(false, k < of), cols, []api.Value{some(k)}, cond("a", api.CondLt, some(of)))
			answers(t, lies(false, k > of), cols, []api.Value{some(k)}, cond("a", api.CondGt, some(of)))
			answers(t, 0, cols, []api.Value{some(k)}, cond("a", api.CondNull, some(of)))
			answers(t, 1, cols, []api.Value{some(k)}, cond("a", api.CondSome, some(of)))
		}
		for _, v := range wrongs() {
			if v.Kind == api.KNull {
				continue
			}
			answers(t, 1, cols, []api.Value{v}, cond("a", api.CondEq, some(of)))
			answers(t, 0, cols, []api.Value{v}, cond("a", api.CondLt, some(of)))
			answers(t, 0, cols, []api.Value{v}, cond("a", api.CondGt, some(of)))
			answers(t, -1, cols, []api.Value{v}, cond("a", api.CondGt, api.Value{}))
			answers(t, 0, cols, []api.Value{v}, cond("a", api.CondNull, some(of)))
			answers(t, 1, cols, []api.Value{v}, cond("a", api.CondSome, some(of)))
		}
	}
}

func TestWhichColumn(t *testing.T) {
	cols := []api.Column{col("a", api.KInt), state(col("h", api.KText), api.WriteOnly), col("b", api.KText), col("c", api.KFloat), state(col("c", api.KInt), api.Filled)}
	vals := []api.Value{integer(1), text("h"), text("b"), {}, integer(5)}
	isOne, isB, isNull := cond("a", api.CondEq, integer(1)), cond("b", api.CondEq, text("b")), cond("c", api.CondNull, api.Value{})
	for _, conds := range [][]api.Cond{{isOne}, {isB}, {isNull}, {isOne, isB}, {isB, isOne}, {isNull, isB}, {isNull, isOne, isB}} {
		answers(t, 1, cols, vals, conds...)
		answers(t, -1, cols, vals, append(conds, cond("c", api.CondEq, float(one64)))...)
		answers(t, 0, cols, vals, append(conds, cond("c", api.CondSome, api.Value{}))...)
	}
	for _, c := range []api.Cond{cond("a", api.CondNull, api.Value{}), cond("b", api.CondNull, api.Value{}), cond("a", api.CondEq, integer(5)), cond("b", api.CondLt, text("b"))} {
		answers(t, 0, cols, vals, c)
	}
	answers(t, 0, cols, vals, cond("b", api.CondEq, text("h")))
	answers(t, 1, cols, vals, cond("a", api.CondGt, integer(0)), cond("a", api.CondLt, integer(2)), cond("a", api.CondEq, integer(1)))
	answers(t, 0, cols, vals, cond("a", api.CondGt, integer(1)), cond("a", api.CondLt, integer(2)))
}

// 18.2: several conditions

// saying are conditions on columns a (null) and b (5) of which each answer comes, by every way there is.
func saying(answer int) []api.Cond {
	switch answer {
	case 1:
		return []api.Cond{cond("a", api.CondNull, api.Value{}), cond("b", api.CondSome, api.Value{}), cond("b", api.CondEq, integer(5)), cond("b", api.CondLt, integer(6)), cond("b", api.CondGt, integer(4))}
	case 0:
		return []api.Cond{cond("a", api.CondSome, api.Value{}), cond("b", api.CondNull, api.Value{}), cond("b", api.CondEq, integer(6)), cond("b", api.CondLt, integer(5)), cond("b", api.CondGt, integer(5))}
	}
	return []api.Cond{cond("a", api.CondEq, integer(5)), cond("a", api.CondLt, api.Value{}), cond("b", api.CondEq, api.Value{}), cond("b", api.CondLt, api.Value{}), cond("b", api.CondGt, api.Value{})}
}

func TestSeveral(t *testing.T) {
	vals := []api.Value{{}, integer(5)}
	for _, two := range []struct{ a, b, want int }{
		{1, 1, 1}, {1, 0, 0}, {1, -1, -1}, {0, 1, 0}, {0, 0, 0}, {0, -1, 0}, {-1, 1, -1}, {-1, 0, 0}, {-1, -1, -1},
	} {
		for _, x := range saying(two.a) {
			answers(t, two.a, ab(), vals, x)
			for _, y := range saying(two.b) {
				answers(t, two.want, ab(), vals, x, y)
				// A third one, in each place, which turns nothing if it is a yes, and all if it is a no.
				for _, z := range saying(1)[:2] {
					answers(t, two.want, ab(), vals, z, x, y)
					answers(t, two.want, ab(), vals, x, z, y)
					answers(t, two.want, ab(), vals, x, y, z)
				}
				for _, z := range saying(0)[:2] {
					answers(t, 0, ab(), vals, z, x, y)
					answers(t, 0, ab(), vals, x, z, y)
					answers(t, 0, ab(), vals, x, y, z)
				}
				want := -1
				if two.want == 0 {
					want = 0
				}
				for _, z := range saying(-1)[:2] {
					answers(t, want, ab(), vals, z, x, y)
					answers(t, want, ab(), vals, x, z, y)
					answers(t, want, ab(), vals, x, y, z)
				}
			}
		}
	}
}

func TestThree(t *testing.T) {
	vals := []api.Value{{}, integer(5)}
	each := []int{1, 0, -1}
	for _, a := range each {
		for _, b := range each {
			for _, c := range each {
				for _, d := range each {
					four := []int{a, b, c, d}
					var conds []api.Cond
					for i, one := range four {
						conds = append(conds, saying(one)[i])
					}
					answers(t, allByWords(four[:3]), ab(), vals, conds[:3]...)
					answers(t, allByWords(four), ab(), vals, conds...)
				}
			}
		}
	}
}

func TestNoConditions(t *testing.T) {
	for _, vals := range [][]api.Value{{{}, {}}, {integer(1), {}}, {text("a"), boolean(2)}} {
		answers(t, 1, ab(), vals)
		answers(t, 1, ab(), vals, []api.Cond{}...)
	}
	hidden := []api.Column{state(col("a", api.KInt), api.Filled)}
	answers(t, 1, hidden, []api.Value{{}})
}

// 18.3

func TestNaN(t *testing.T) {
	nan := float(oneNaN)
	asks(t, 1, nan, api.CondEq, nan)
	asks(t, 0, nan, api.CondLt, nan)
	asks(t, 0, nan, api.CondGt, nan)
	for _, f := range []uint64{minus | inf, minus | one64, minus | 1, 0, 1, one64, inf - 1, inf} {
		asks(t, 0, nan, api.CondEq, float(f))
		asks(t, 0, nan, api.CondLt, float(f))
		asks(t, 1, nan, api.CondGt, float(f))
		asks(t, 0, float(f), api.CondEq, nan)
		asks(t, 1, float(f), api.CondLt, nan)
		asks(t, 0, float(f), api.CondGt, nan)
	}
	asks(t, -1, nan, api.CondEq, api.Value{})
	asks(t, -1, api.Value{}, api.CondEq, nan)
	asks(t, 0, nan, api.CondNull, api.Value{})
	asks(t, 1, nan, api.CondSome, api.Value{})
}

// NaNs of another form, and the nought with a sign, may not be: as V they are refused, and in a row they are the same as the one form.
func TestOtherForms(t *testing.T) {
	floats := []api.Column{col("a", api.KFloat)}
	for _, f := range []uint64{oneNaN + 1, oneNaN | minus, inf + 1, minus | (inf + 1), 0x7fffffffffffffff, math.MaxUint64} {
		asks(t, 1, float(f), api.CondEq, float(oneNaN))
		asks(t, 0, float(f), api.CondLt, float(oneNaN))
		asks(t, 0, float(f), api.CondGt, float(oneNaN))
		for _, g := range []uint64{oneNaN, oneNaN + 1, oneNaN | minus, inf, minus | inf} {
			if v, e := Test(floats, []api.Value{float(g)}, []api.Cond{cond("a", api.CondEq, float(f))}); v != 0 || e != api.ErrArg {
				t.Errorf("18.3: %x against the NaN %x: %d %d", g, f, v, e)
			}
		}
	}
	for _, f := range []uint64{0, minus} {
		asks(t, 1, float(f), api.CondEq, float(0))
		asks(t, 0, float(f), api.CondLt, float(0))
		asks(t, 0, float(f), api.CondGt, float(0))
		checks(t, api.ErrArg, floats, cond("a", api.CondEq, float(minus)))
	}
}

// R3, R5

func TestHandedInStays(t *testing.T) {
	cols := []api.Column{state(col("a", api.KText), api.Filled), col("a", api.KInt), col("b", api.KFloat)}
	vals := []api.Value{text("x"), integer(1), float(minus), integer(99)}
	conds := []api.Cond{cond("b", api.CondEq, float(0)), cond("a", api.CondSome, integer(7)), cond("a", api.CondLt, api.Value{}), cond("q", 9, text("spare"))}
	wasCols, wasVals, wasConds := slices.Clone(cols), slices.Clone(vals), slices.Clone(conds)
	for range 3 {
		answers(t, -1, cols, vals[:3], conds[:3]...)
		checks(t, api.ErrName, cols, conds...)
	}
	if !slices.Equal(vals, wasVals) || !slices.Equal(conds, wasConds) || !slices.Equal(cols, wasCols) {
		t.Errorf("R3: %+v %+v %+v", cols, vals, conds)
	}
	// Nothing is kept of what was handed in.
	vals[1], conds[2].V = integer(3), integer(4)
	answers(t, 1, cols, vals[:3], conds[:3]...)
	cols[1].State = api.WriteOnly
	checks(t, api.ErrName, cols, conds[:3]...)
}
