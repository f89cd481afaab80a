package desc

import (
	"encoding/binary"
	"hash/crc32"
	"math"
	"math/rand"
	"reflect"
	"regexp"
	"slices"
	"strings"
	"testing"

	"falsework/api"
)

// The ways that the program is held against: names by a pattern, what may be by maps, bytes by going through the fields of api's types.

const listed = "insert into values update set where and delete from select create unique table index on drop alter add column default not null is primary key bool int float bytes text true false"

var named = regexp.MustCompile(`\A[a-z][a-z0-9_]{0,15}\z`)

func isName(s string) bool {
	return named.MatchString(s) && !slices.Contains(strings.Fields(listed), s)
}

func sealed(s string) string {
	return string(binary.BigEndian.AppendUint32([]byte(s), crc32.Checksum([]byte(s), crc32.MakeTable(crc32.Castagnoli))))
}

// What a number of a text stands for.
const (
	plainNumber = iota
	textLength
	listLength
	boolNumber
)

// field is a number of a text: where it stands, what it is for.
type field struct{ at, what int }

type writer struct {
	b      []byte
	fields []field
}

func (w *writer) number(n uint64, what int) {
	w.fields = append(w.fields, field{len(w.b), what})
	w.b = binary.BigEndian.AppendUint64(w.b, n)
}

func (w *writer) walk(v reflect.Value) {
	switch v.Kind() {
	case reflect.Int, reflect.Int64:
		w.number(uint64(v.Int()), plainNumber)
	case reflect.Uint64:
		w.number(v.Uint(), plainNumber)
	case reflect.Bool:
		n := map[bool]uint64{true: 1}[v.Bool()]
		w.number(n, boolNumber)
	case reflect.String:
		w.number(uint64(v.Len()), textLength)
		w.b = append(w.b, v.String()...)
	case reflect.Slice:
		w.number(uint64(v.Len()), listLength)
		for i := range v.Len() {
			w.walk(v.Index(i))
		}
	case reflect.Struct:
		for i := range v.NumField() {
			w.walk(v.Field(i))
		}
	default:
		panic("a field of another kind")
	}
}

// laid is a schema's bytes without a sum, whether it may be or not, and where its numbers stand.
func laid(x api.Schema) (string, []field) {
	var w writer
	w.walk(reflect.ValueOf(x))
	return string(w.b), w.fields
}

// scan reads the fields of v from s, and tells what is left; false, if s is not of that form.
func scan(v reflect.Value, s string) (string, bool) {
	if v.Kind() == reflect.Struct {
		for i := range v.NumField() {
			var ok bool
			if s, ok = scan(v.Field(i), s); !ok {
				return "", false
			}
		}
		return s, true
	}
	if len(s) < 8 {
		return "", false
	}
	n := binary.BigEndian.Uint64([]byte(s))
	s = s[8:]
	switch v.Kind() {
	case reflect.Int, reflect.Int64:
		v.SetInt(int64(n))
	case reflect.Uint64:
		v.SetUint(n)
	case reflect.Bool:
		v.SetBool(n == 1)
		return s, n <= 1
	case reflect.String:
		if n > uint64(len(s)) {
			return "", false
		}
		v.SetString(s[:n])
		s = s[n:]
	case reflect.Slice:
		if n > uint64(len(s)) {
			return "", false
		}
		for range n {
			part := reflect.New(v.Type().Elem()).Elem()
			var ok bool
			if s, ok = scan(part, s); !ok {
				return "", false
			}
			v.Set(reflect.Append(v, part))
		}
	}
	return s, true
}

// scanned is the schema that bytes without a sum are of; false, if there is none.
func scanned(plain string) (api.Schema, bool) {
	var x api.Schema
	left, ok := scan(reflect.ValueOf(&x).Elem(), plain)
	if !ok || left != "" || !mayBe(x) {
		return api.Schema{}, false
	}
	return x, true
}

func mayBe(x api.Schema) bool {
	good := x.Version >= 0 && x.Version < 1<<40 && x.Next >= 0 && x.Next < 1<<40 && len(x.Tables) <= 4
	names := map[string]int{}
	for i, t := range x.Tables {
		names[t.Name]++
		good = good && t.ID >= 1 && t.ID < x.Next && isName(t.Name) && tableMayBe(t)
		good = good && (i == 0 || x.Tables[i-1].ID < t.ID)
	}
	return good && len(names) == len(x.Tables)
}

func tableMayBe(t api.Table) bool {
	good := t.Next >= 1 && t.Next <= 60000 && len(t.Cols) >= 1 && len(t.Cols) <= 8 && len(t.Indexes) <= 4
	ids, cols, colNames, indexNames := map[int]int{}, map[int]int{}, map[string]int{}, map[string]int{}
	for i, c := range t.Cols {
		ids[c.ID]++
		cols[c.ID]++
		colNames[c.Name]++
		good = good && c.ID >= 1 && c.ID < t.Next && isName(c.Name) && c.Kind >= 1 && c.Kind <= 5
		good = good && c.State >= 0 && c.State <= 4 && c.Null >= 0 && c.Null <= 4 && defaultMayBe(c)
		good = good && (i > 0 || c.State == 4 && c.Null == 4 && c.Default == api.Value{})
	}
	for _, x := range t.Indexes {
		ids[x.ID]++
		indexNames[x.Name]++
		good = good && x.ID >= 1 && x.ID < t.Next && isName(x.Name) && x.State >= 0 && x.State <= 4
		over := map[int]int{}
		for _, id := range x.Cols {
			over[id]++
			good = good && cols[id] > 0
		}
		good = good && len(x.Cols) >= 1 && len(x.Cols) <= 8 && len(over) == len(x.Cols)
	}
	return good && len(ids) == len(t.Cols)+len(t.Indexes) && len(colNames) == len(t.Cols) && len(indexNames) == len(t.Indexes)
}

func defaultMayBe(c api.Column) bool {
	v, rest := c.Default, c.Default
	switch rest.Kind = 0; v.Kind {
	case 0:
	case 1:
		rest.N = 0
		if v.N != 0 && v.N != 1 {
			return false
		}
	case 2:
		rest.N = 0
	case 3:
		rest.F = 0
		if f := math.Float64frombits(v.F); v.F == 1<<63 || f != f && v.F != 0x7ff8000000000000 {
			return false
		}
	case 4, 5:
		rest.S = ""
		if len(v.S) > 40 {
			return false
		}
	default:
		return false
	}
	return rest == api.Value{} && (v.Kind == 0 || v.Kind == c.Kind)
}

// whole is a schema with something of each kind in it.
func whole() api.Schema {
	return api.Schema{Version: 7, Next: 12, Tables: []api.Table{
		{
			ID: 2, Name: "t", Next: 20,
			Cols: []api.Column{
				{ID: 3, Name: "k", Kind: api.KInt, State: api.Public, Null: api.Public},
				{ID: 9, Name: "a", Kind: api.KInt, State: api.WriteOnly, Null: api.DeleteOnly, Default: api.Value{Kind: api.KInt, N: -2}},
				{ID: 1, Name: "b_2", Kind: api.KFloat, State: api.Filled, Default: api.Value{Kind: api.KFloat, F: 1<<63 | 5}},
				{ID: 5, Name: "c", Kind: api.KText, Default: api.Value{Kind: api.KText, S: "x\x00\xff"}},
			},
			Indexes: []api.Index{
				{ID: 4, Name: "a", Cols: []int{9, 3}, Unique: true, State: api.Filled},
				{ID: 10, Name: "b", Cols: []int{5}, State: api.Public},
			},
		},
		{ID: 5, Name: "u_1", Next: 3, Cols: []api.Column{{ID: 2, Name: "k", Kind: api.KText, State: api.Public, Null: api.Public}}},
		{
			ID: 11, Name: "b", Next: 60000,
			Cols: []api.Column{
				{ID: 59999, Name: "b", Kind: api.KBool, State: api.Public, Null: api.Public},
				{ID: 2, Name: "c", Kind: api.KBytes, State: api.Public, Null: api.Filled, Default: api.Value{Kind: api.KBytes}},
			},
			Indexes: []api.Index{{ID: 1, Name: "b", Cols: []int{2}, State: api.Absent}},
		},
	}}
}

// wide is a schema with as much in it as there may be.
func wide() api.Schema {
	x := api.Schema{Version: api.MaxTime - 1, Next: api.MaxTime - 1}
	long := strings.Repeat("n", api.MaxName-1)
	for i := range api.MaxTables {
		t := api.Table{ID: i + 1, Name: long + string(rune('a'+i)), Next: maxNext}
		var ids []int
		for j := range api.MaxCols {
			c := api.Column{ID: 3*j + 1, Name: long + string(rune('a'+j)), Kind: api.KText, State: api.Public, Null: api.Public}
			if j > 0 {
				c.Default = api.Value{Kind: api.KText, S: strings.Repeat("\xff", api.MaxText)}
			}
			t.Cols, ids = append(t.Cols, c), append(ids, c.ID)
		}
		for j := range api.MaxIndexes {
			t.Indexes = append(t.Indexes, api.Index{ID: 3*j + 2, Name: long + string(rune('a'+j)), Cols: slices.Clone(ids), Unique: true, State: api.Public})
		}
		x.Tables = append(x.Tables, t)
	}
	return x
}

// same tells whether two schemas are one; a nil list and an empty one are.
func same(x, y api.Schema) bool {
	a, _ := laid(x)
	b, _ := laid(y)
	return a == b
}

// copied is a schema that shares no memory with x.
func copied(x api.Schema) api.Schema {
	x.Tables = slices.Clone(x.Tables)
	for i := range x.Tables {
		t := &x.Tables[i]
		t.Cols, t.Indexes = slices.Clone(t.Cols), slices.Clone(t.Indexes)
		for j := range t.Indexes {
			t.Indexes[j].Cols = slices.Clone(t.Indexes[j].Cols)
		}
	}
	return x
}

// refused asks that Get tells ErrForm of s, and nothing beside it.
func refused(t *testing.T, promise, what, s string) {
	t.Helper()
	if x, e := Get(s); e != api.ErrForm || !reflect.DeepEqual(x, api.Schema{}) {
		t.Errorf("%s: %s: %d %+v", promise, what, e, x)
	}
}

// held holds May, Put and Get of a schema against what is to be.
func held(t *testing.T, what string, x api.Schema, may bool) {
	t.Helper()
	plain, _ := laid(x)
	if May(x) != may {
		t.Errorf("6.2: %s: %v", what, !may)
	}
	s, e := Put(x)
	if !may {
		if s != "" || e != api.ErrForm {
			t.Errorf("6.3: %s: %x %d", what, s, e)
		}
		refused(t, "6.4", what, sealed(plain))
		return
	}
	if s != sealed(plain) || e != api.OK {
		t.Errorf("6.3: %s: %x %d", what, s, e)
	}
	if y, e := Get(s); !same(x, y) || e != api.OK {
		t.Errorf("6.5: %s: %+v %d", what, y, e)
	}
}

// 6.1

func TestNameLengths(t *testing.T) {
	for n := range 40 {
		for _, c := range []string{"a", "z", "m"} {
			if got, want := Name(strings.Repeat(c, n)), n >= 1 && n <= 16; got != want {
				t.Errorf("6.1: %d times %s: %v", n, c, got)
			}
		}
	}
	if Name(strings.Repeat("a", 1<<20)) {
		t.Error("6.1: a long one")
	}
}

func TestNameBytes(t *testing.T) {
	for b := range 256 {
		c := string([]byte{byte(b)})
		first := b >= 'a' && b <= 'z'
		other := first || b >= '0' && b <= '9' || b == '_'
		for s, want := range map[string]bool{
			c: first, c + "q": first, "q" + c: other, "q" + c + "q": other, "qq" + c: other,
			c + strings.Repeat("q", 15): first, strings.Repeat("q", 15) + c: other, strings.Repeat("q", 16) + c: false,
		} {
			if Name(s) != want {
				t.Errorf("6.1: %q: %v", s, !want)
			}
		}
	}
	for _, s := range []string{"é", "aé", "a\u212a", "a\n", "\na", " a", "a ", "a b", "a-b", "a\x00"} {
		if Name(s) {
			t.Errorf("6.1: %q is one", s)
		}
	}
}

func TestNameWords(t *testing.T) {
	words := strings.Fields(listed)
	if len(words) != 32 {
		t.Fatal("how many words", len(words))
	}
	for _, w := range words {
		if Name(w) {
			t.Errorf("6.1: %q is one", w)
		}
		for at := range len(w) + 1 {
			if at < len(w) {
				heldName(t, w[:at]+w[at+1:])
				heldName(t, w[:at]+strings.ToUpper(w[at:at+1])+w[at+1:])
			}
			for b := range 256 {
				heldName(t, w[:at]+string([]byte{byte(b)})+w[at:])
			}
		}
	}
	for _, s := range []string{"selects", "selec", "elect", "i", "o", "integer", "values_", "or", "x", "f", "rows", "value", "by"} {
		if !Name(s) {
			t.Errorf("6.1: %q is none", s)
		}
	}
}

func heldName(t *testing.T, s string) {
	t.Helper()
	if got, want := Name(s), isName(s); got != want {
		t.Errorf("6.1: %q: %v", s, got)
	}
}

func TestNameShort(t *testing.T) {
	some := []byte("`abeiknosyz{/0189:_^A \x00\xff")
	var all func(s string, more int)
	all = func(s string, more int) {
		heldName(t, s)
		if more > 0 {
			for _, c := range some {
				all(s+string([]byte{c}), more-1)
			}
		}
	}
	all("", 3)
}

// 6.2, and of each schema what 6.3, 6.4 and 6.5 say of it

type turn struct {
	what string
	turn func(x *api.Schema)
	may  bool
}

func turned(t *testing.T, turns []turn) {
	t.Helper()
	for _, c := range turns {
		x := whole()
		c.turn(&x)
		if mayBe(x) != c.may {
			t.Fatalf("%s: the other way tells %v", c.what, !c.may)
		}
		held(t, c.what, x, c.may)
	}
}

func TestMaySchema(t *testing.T) {
	held(t, "nothing", api.Schema{}, true)
	held(t, "no table", api.Schema{Version: 3, Tables: []api.Table{}, Next: 9}, true)
	held(t, "whole", whole(), true)
	held(t, "wide", wide(), true)
	for n, may := range map[int]bool{0: true, 1: true, api.MaxTime - 1: true, api.MaxTime: false, api.MaxTime + 1: false, -1: false, math.MinInt: false, math.MaxInt: false, 1 << 32: true, -1 << 32: false} {
		held(t, "Version", api.Schema{Version: n}, may)
		held(t, "Next", api.Schema{Next: n}, may)
		turned(t, []turn{
			{"Version of a whole one", func(x *api.Schema) { x.Version = n }, may},
			{"Next of a whole one", func(x *api.Schema) { x.Next = n }, may && n > 11},
		})
	}
}

func TestMayTables(t *testing.T) {
	one := whole().Tables[1]
	for n := range 8 {
		x := api.Schema{Next: 100}
		for i := range n {
			one.ID, one.Name = i+1, string(rune('a'+i))
			x.Tables = append(x.Tables, one)
		}
		held(t, "how many tables", x, n <= api.MaxTables)
	}
	turned(t, []turn{
		{"first ID 0", func(x *api.Schema) { x.Tables[0].ID = 0 }, false},
		{"first ID -1", func(x *api.Schema) { x.Tables[0].ID = -1 }, false},
		{"first ID 1", func(x *api.Schema) { x.Tables[0].ID = 1 }, true},
		{"first ID just below the second", func(x *api.Schema) { x.Tables[0].ID = 4 }, true},
		{"the same ID", func(x *api.Schema) { x.Tables[0].ID = 5 }, false},
		{"IDs that fall", func(x *api.Schema) { x.Tables[0].ID = 6 }, false},
		{"the first ID again", func(x *api.Schema) { x.Tables[1].ID = 2 }, false},
		{"the first ID at the end", func(x *api.Schema) { x.Tables[2].ID = 2 }, false},
		{"last ID falls", func(x *api.Schema) { x.Tables[2].ID = 4 }, false},
		{"last ID Next less one", func(x *api.Schema) { x.Next = 12 }, true},
		{"last ID Next", func(x *api.Schema) { x.Next = 11 }, false},
		{"last ID above Next", func(x *api.Schema) { x.Tables[2].ID = 13 }, false},
		{"first ID Next", func(x *api.Schema) { x.Tables = x.Tables[:1]; x.Next = 2 }, false},
		{"only ID Next less one", func(x *api.Schema) { x.Tables = x.Tables[:1]; x.Next = 3 }, true},
		{"an ID, and Next 0", func(x *api.Schema) { x.Next = 0 }, false},
		{"a great ID", func(x *api.Schema) { x.Next = api.MaxTime - 1; x.Tables[2].ID = api.MaxTime - 2 }, true},
		{"the same Name, side by side", func(x *api.Schema) { x.Tables[1].Name = "t" }, false},
		{"the same Name, apart", func(x *api.Schema) { x.Tables[2].Name = "t" }, false},
		{"no Name", func(x *api.Schema) { x.Tables[1].Name = "" }, false},
		{"a word", func(x *api.Schema) { x.Tables[2].Name = "table" }, false},
		{"a Name that is none", func(x *api.Schema) { x.Tables[0].Name = "1" }, false},
		{"a Name of 16", func(x *api.Schema) { x.Tables[0].Name = strings.Repeat("n", 16) }, true},
		{"a Name of 17", func(x *api.Schema) { x.Tables[0].Name = strings.Repeat("n", 17) }, false},
	})
}

func TestMayTable(t *testing.T) {
	next := func(n int) func(*api.Schema) { return func(x *api.Schema) { x.Tables[1].Next = n } }
	turned(t, []turn{
		{"Next -1", next(-1), false}, {"Next 0", next(0), false}, {"Next 1", next(1), false},
		{"Next that is the ID", next(2), false}, {"Next one above", next(3), true},
		{"Next 59999", next(59999), true}, {"Next 60000", next(60000), true}, {"Next 60001", next(60001), false},
		{"Next 1<<16 and 5", next(1<<16 + 5), false}, {"the greatest Next", next(math.MaxInt), false}, {"the least Next", next(math.MinInt), false},
		{"an index's ID is Next", func(x *api.Schema) { x.Tables[0].Next = 10 }, false},
		{"an index's ID is Next less one", func(x *api.Schema) { x.Tables[0].Next = 11 }, true},
		{"no column", func(x *api.Schema) { x.Tables[1].Cols = nil }, false},
		{"no column, not nil", func(x *api.Schema) { x.Tables[1].Cols = []api.Column{} }, false},
		{"no column, and indexes", func(x *api.Schema) { x.Tables[0].Cols = nil }, false},
		{"no index", func(x *api.Schema) { x.Tables[0].Indexes = nil }, true},
		{"no index, not nil", func(x *api.Schema) { x.Tables[0].Indexes = []api.Index{} }, true},
	})
	for n := range 12 {
		x, y := whole(), whole()
		x.Tables[1].Next, y.Tables[1].Next = 100, 100
		x.Tables[1].Cols = nil
		for i := range n {
			x.Tables[1].Cols = append(x.Tables[1].Cols, api.Column{ID: i + 1, Name: string(rune('a' + i)), Kind: api.KInt, State: api.Public, Null: api.Public})
			y.Tables[1].Indexes = append(y.Tables[1].Indexes, api.Index{ID: i + 3, Name: string(rune('a' + i)), Cols: []int{2}})
		}
		held(t, "how many columns", x, n >= 1 && n <= api.MaxCols)
		held(t, "how many indexes", y, n <= api.MaxIndexes)
	}
}

func TestMayIDs(t *testing.T) {
	col := func(at, id int) func(*api.Schema) {
		return func(x *api.Schema) {
			x.Tables[0].Cols[at].ID = id
			x.Tables[0].Indexes = x.Tables[0].Indexes[:1]
			x.Tables[0].Indexes[0].Cols = []int{1}
		}
	}
	index := func(at, id int) func(*api.Schema) { return func(x *api.Schema) { x.Tables[0].Indexes[at].ID = id } }
	turned(t, []turn{
		{"a column's ID -1", col(0, -1), false}, {"a column's ID 0", col(0, 0), false},
		{"a column's ID 2", col(0, 2), true}, {"a column's ID 19", col(1, 19), true},
		{"a column's ID 20", col(1, 20), false}, {"a column's ID 21", col(3, 21), false},
		{"two columns' ID, side by side", col(1, 3), false}, {"two columns' ID, apart", col(3, 3), false}, {"two columns' ID, at the end", col(3, 1), false},
		{"a column's and the index's ID", col(1, 4), false}, {"the first column's and the index's ID", col(0, 4), false},
		{"an index's ID -1", index(0, -1), false}, {"an index's ID 0", index(0, 0), false},
		{"an index's ID 2", index(0, 2), true}, {"an index's ID 19", index(1, 19), true},
		{"an index's ID 20", index(1, 20), false}, {"an index's ID 21", index(0, 21), false},
		{"two indexes' ID", index(0, 10), false}, {"two indexes' ID, the other one", index(1, 4), false},
		{"an index's and the first column's ID", index(0, 3), false}, {"an index's and the last column's ID", index(1, 5), false},
		{"a column's ID 1", func(x *api.Schema) { x.Tables[1].Cols[0].ID = 1 }, true},
		{"an ID of another table", func(x *api.Schema) { x.Tables[1].Next = 20; x.Tables[1].Cols[0].ID = 9 }, true},
	})
}

func TestMayNames(t *testing.T) {
	col := func(at int, s string) func(*api.Schema) { return func(x *api.Schema) { x.Tables[0].Cols[at].Name = s } }
	index := func(at int, s string) func(*api.Schema) {
		return func(x *api.Schema) { x.Tables[0].Indexes[at].Name = s }
	}
	turned(t, []turn{
		{"two columns' Name, side by side", col(1, "k"), false}, {"two columns' Name, apart", col(3, "a"), false}, {"two columns' Name, at the end", col(3, "b_2"), false},
		{"two indexes' Name", index(0, "b"), false}, {"two indexes' Name, the other one", index(1, "a"), false},
		{"a column's and an index's Name", index(1, "c"), true},
		{"a column's Name as the table's", col(3, "t"), true}, {"an index's Name as the table's", index(0, "t"), true},
		{"a column's Name of another table", col(0, "b"), true},
	})
	for _, s := range append(strings.Fields(listed), "", "A", "_", "9", "a.", strings.Repeat("n", 17), "é") {
		turned(t, []turn{{"first column " + s, col(0, s), false}, {"last column " + s, col(3, s), false}, {"index " + s, index(0, s), false}, {"last index " + s, index(1, s), false}})
	}
	for _, s := range []string{"z", "z_", "z9", strings.Repeat("n", 16)} {
		turned(t, []turn{{"first column " + s, col(0, s), true}, {"last column " + s, col(3, s), true}, {"index " + s, index(0, s), true}, {"last index " + s, index(1, s), true}})
	}
}

func TestMayKindsAndStates(t *testing.T) {
	for n := -3; n < 9; n++ {
		within := n >= api.Absent && n <= api.Public
		kind := n >= api.KBool && n <= api.KText
		turned(t, []turn{
			{"first column's Kind", func(x *api.Schema) { x.Tables[0].Cols[0].Kind = n }, kind},
			{"a column's Kind", func(x *api.Schema) { x.Tables[0].Cols[3].Kind = n; x.Tables[0].Cols[3].Default = api.Value{} }, kind},
			{"a column's State", func(x *api.Schema) { x.Tables[0].Cols[3].State = n }, within},
			{"a column's Null", func(x *api.Schema) { x.Tables[0].Cols[3].Null = n }, within},
			{"an index's State", func(x *api.Schema) { x.Tables[0].Indexes[1].State = n }, within},
			{"first column's State", func(x *api.Schema) { x.Tables[1].Cols[0].State = n }, n == api.Public},
			{"first column's Null", func(x *api.Schema) { x.Tables[1].Cols[0].Null = n }, n == api.Public},
		})
	}
	for _, n := range []int{math.MinInt, math.MaxInt, 1 << 32, 1<<32 + api.Public, -1 << 32, 256 + api.Public} {
		turned(t, []turn{
			{"a great Kind", func(x *api.Schema) { x.Tables[0].Cols[0].Kind = n }, false},
			{"a great State", func(x *api.Schema) { x.Tables[0].Cols[1].State = n }, false},
			{"a great Null", func(x *api.Schema) { x.Tables[0].Cols[1].Null = n }, false},
			{"a great State of an index", func(x *api.Schema) { x.Tables[0].Indexes[0].State = n }, false},
		})
	}
}

// some is values of each kind, those that may be at may[k], others at not.
func some() (may [6][]api.Value, not []api.Value) {
	long, longer := strings.Repeat("\x00", api.MaxText), strings.Repeat("a", api.MaxText+1)
	may[api.KNull] = []api.Value{{}}
	may[api.KBool] = []api.Value{{Kind: 1}, {Kind: 1, N: 1}}
	may[api.KInt] = []api.Value{{Kind: 2}, {Kind: 2, N: 1}, {Kind: 2, N: -1}, {Kind: 2, N: math.MinInt64}, {Kind: 2, N: math.MaxInt64}}
	may[api.KFloat] = []api.Value{{Kind: 3}, {Kind: 3, F: 1<<63 | 1}, {Kind: 3, F: 0x7ff8000000000000}, {Kind: 3, F: 0xfff0000000000000}}
	may[api.KBytes] = []api.Value{{Kind: 4}, {Kind: 4, S: "a"}, {Kind: 4, S: long}}
	may[api.KText] = []api.Value{{Kind: 5}, {Kind: 5, S: "\xff"}, {Kind: 5, S: long}}
	not = []api.Value{
		{N: 1}, {F: 1}, {S: "a"}, {Kind: 1, N: 2}, {Kind: 1, N: -1}, {Kind: 1, F: 1}, {Kind: 1, S: "a"}, {Kind: 2, F: 1}, {Kind: 2, S: "a"},
		{Kind: 3, F: 1 << 63}, {Kind: 3, F: 0x7ff8000000000001}, {Kind: 3, F: 0xfff8000000000000}, {Kind: 3, N: 1}, {Kind: 3, S: "a"},
		{Kind: 4, S: longer}, {Kind: 5, S: longer}, {Kind: 4, N: 1}, {Kind: 5, N: 1}, {Kind: 4, F: 1}, {Kind: 5, F: 1}, {Kind: 6}, {Kind: -1}, {Kind: 1 << 32},
	}
	return may, not
}

func TestMayDefaults(t *testing.T) {
	may, not := some()
	for kind := api.KBool; kind <= api.KText; kind++ {
		at := func(place int, v api.Value) func(*api.Schema) {
			return func(x *api.Schema) { x.Tables[2].Cols[place].Kind = kind; x.Tables[2].Cols[place].Default = v }
		}
		for k, vs := range may {
			for _, v := range vs {
				turned(t, []turn{{"a Default", at(1, v), k == kind || k == api.KNull}, {"the first column's Default", at(0, v), k == api.KNull}})
			}
		}
		for _, v := range not {
			turned(t, []turn{{"a Default that may not be", at(1, v), false}, {"the first column's, that may not be", at(0, v), false}})
		}
	}
}

func TestMayIndexColumns(t *testing.T) {
	for _, c := range []struct {
		cols []int
		may  bool
	}{
		{nil, false}, {[]int{}, false}, {[]int{3}, true}, {[]int{1}, true}, {[]int{3, 9, 1, 5}, true}, {[]int{5, 1, 9, 3}, true},
		{[]int{3, 3}, false}, {[]int{3, 9, 3}, false}, {[]int{9, 3, 3}, false}, {[]int{3, 9, 1, 5, 5}, false},
		{[]int{0}, false}, {[]int{-1}, false}, {[]int{2}, false}, {[]int{3, 2}, false}, {[]int{2, 3}, false},
		{[]int{4}, false}, {[]int{10}, false}, {[]int{59999}, false}, {[]int{20}, false}, {[]int{1<<32 + 3}, false},
	} {
		turned(t, []turn{
			{"the first index's Cols", func(x *api.Schema) { x.Tables[0].Indexes[0].Cols = c.cols }, c.may},
			{"the last index's Cols", func(x *api.Schema) { x.Tables[0].Indexes[1].Cols = c.cols }, c.may},
		})
	}
	for n := range 12 {
		x := wide()
		x.Tables[3].Indexes[3].Cols = nil
		for i := range n {
			x.Tables[3].Indexes[3].Cols = append(x.Tables[3].Indexes[3].Cols, 3*(i%api.MaxCols)+1)
		}
		held(t, "how many Cols", x, n >= 1 && n <= api.MaxCols)
	}
	turned(t, []turn{
		{"no Unique", func(x *api.Schema) { x.Tables[0].Indexes[0].Unique = false }, true},
		{"two indexes alike", func(x *api.Schema) { x.Tables[0].Indexes[1].Cols = []int{9, 3} }, true},
	})
}

// Lists of a great length are refused by their length: what is in them is not gone through, two by two or otherwise.
func TestMayLong(t *testing.T) {
	const many = 1 << 18
	cols := make([]int, many)
	for i := range cols {
		cols[i] = i
	}
	for what, turn := range map[string]func(*api.Schema){
		"tables": func(x *api.Schema) { x.Tables = make([]api.Table, many) },
		"Cols":   func(x *api.Schema) { x.Tables[0].Indexes[0].Cols = cols },
		"a name": func(x *api.Schema) { x.Tables[0].Name = strings.Repeat("a", many) },
	} {
		x := whole()
		turn(&x)
		if s, e := Put(x); May(x) || s != "" || e != api.ErrForm {
			t.Errorf("6.2: a great many: %s", what)
		}
	}
	x, y := whole(), whole()
	for i := range many {
		x.Tables[1].Cols = append(x.Tables[1].Cols, api.Column{ID: i + 3, Name: "a", Kind: api.KInt})
		y.Tables[1].Indexes = append(y.Tables[1].Indexes, api.Index{ID: i + 3, Name: "a", Cols: []int{2}})
	}
	if May(x) || May(y) {
		t.Error("6.2: a great many columns, or indexes")
	}
}

// 6.3

func eight(n int) string {
	return string(binary.BigEndian.AppendUint64(nil, uint64(n)))
}

func TestPutExample(t *testing.T) {
	s, e := Put(api.Schema{})
	if e != api.OK || len(s) != 8+8+8+4 || s != sealed(strings.Repeat("\x00", 24)) {
		t.Errorf("6.3: nothing: %x %d", s, e)
	}
	if y, e := Get(s); e != api.OK || !same(y, api.Schema{}) {
		t.Errorf("6.4: nothing: %+v %d", y, e)
	}
}

func TestPutByHand(t *testing.T) {
	x := api.Schema{Version: 258, Next: 1 << 39, Tables: []api.Table{{
		ID: 513, Name: "tab", Next: 60000,
		Cols: []api.Column{
			{ID: 1, Name: "a", Kind: 2, State: 4, Null: 4},
			{ID: 772, Name: "bc", Kind: 2, State: 1, Null: 3, Default: api.Value{Kind: 2, N: -2}},
			{ID: 3, Name: "d", Kind: 3, Default: api.Value{Kind: 3, F: 0x0102030405060708}},
			{ID: 4, Name: "e", Kind: 5, Default: api.Value{Kind: 5, S: "x\x00"}},
			{ID: 5, Name: "f", Kind: 1, Default: api.Value{Kind: 1, N: 1}},
		},
		Indexes: []api.Index{{ID: 6, Name: "i", Cols: []int{772, 1}, Unique: true, State: 2}, {ID: 7, Name: "j", Cols: []int{3}}},
	}}}
	want := strings.Join([]string{
		"\x00\x00\x00\x00\x00\x00\x01\x02", eight(1),
		"\x00\x00\x00\x00\x00\x00\x02\x01", "\x00\x00\x00\x00\x00\x00\x00\x03tab",
		eight(5),
		eight(1), eight(1), "a", eight(2), eight(4), eight(4), eight(0), eight(0), eight(0), eight(0),
		eight(772), eight(2), "bc", eight(2), eight(1), eight(3), eight(2), "\xff\xff\xff\xff\xff\xff\xff\xfe", eight(0), eight(0),
		eight(3), eight(1), "d", eight(3), eight(0), eight(0), eight(3), eight(0), "\x01\x02\x03\x04\x05\x06\x07\x08", eight(0),
		eight(4), eight(1), "e", eight(5), eight(0), eight(0), eight(5), eight(0), eight(0), eight(2), "x\x00",
		eight(5), eight(1), "f", eight(1), eight(0), eight(0), eight(1), eight(1), eight(0), eight(0),
		eight(2),
		eight(6), eight(1), "i", eight(2), eight(772), eight(1), eight(1), eight(2),
		eight(7), eight(1), "j", eight(1), eight(3), eight(0), eight(0),
		"\x00\x00\x00\x00\x00\x00\xea\x60",
		"\x00\x00\x00\x80\x00\x00\x00\x00",
	}, "")
	if s, e := Put(x); s != sealed(want) || e != api.OK {
		t.Errorf("6.3: %x %d\nnot %x", s, e, sealed(want))
	}
	if y, e := Get(sealed(want)); !same(x, y) || e != api.OK {
		t.Errorf("6.4: %+v %d", y, e)
	}
}

// 6.4

// read holds Get of bytes without a sum, sealed, against the other way of reading them.
func read(t *testing.T, what, plain string) bool {
	t.Helper()
	want, ok := scanned(plain)
	s := sealed(plain)
	if !ok {
		refused(t, "6.4", what, s)
		return false
	}
	x, e := Get(s)
	if !same(x, want) || e != api.OK {
		t.Errorf("6.4: %s: %+v %d", what, x, e)
	}
	if again, e := Put(x); again != s || e != api.OK {
		t.Errorf("6.4: %s: Put tells another text, %d", what, e)
	}
	return true
}

func TestGetCut(t *testing.T) {
	for _, x := range []api.Schema{{}, whole(), wide()} {
		plain, _ := laid(x)
		s := sealed(plain)
		for i := range s {
			refused(t, "6.4", "cut at the end", s[:i])
			refused(t, "6.4", "cut at the beginning", s[i+1:])
		}
		for i := range plain {
			refused(t, "6.4", "cut at the end, sealed anew", sealed(plain[:i]))
			refused(t, "6.4", "cut at the beginning, sealed anew", sealed(plain[i+1:]))
		}
	}
	for n := range 40 {
		for _, c := range []string{"\x00", "\x01", "\xff", "a"} {
			read(t, "short", strings.Repeat(c, n))
			refused(t, "6.4", "without a sum", strings.Repeat(c, n+1))
		}
	}
	if !read(t, "noughts", strings.Repeat("\x00", 24)) {
		t.Error("6.4: 24 noughts")
	}
}

func TestGetMore(t *testing.T) {
	for _, x := range []api.Schema{{}, whole(), wide()} {
		plain, fields := laid(x)
		s := sealed(plain)
		for _, more := range []string{"\x00", "\x01", "\xff", eight(0), eight(1), s, plain, s[len(s)-4:], sealed("")} {
			refused(t, "6.4", "more behind", s+more)
			refused(t, "6.4", "more behind, sealed anew", sealed(plain+more))
			refused(t, "6.4", "more behind, sealed twice", sealed(s+more))
			refused(t, "6.4", "more ahead", more+s)
		}
		refused(t, "6.4", "sealed twice", sealed(s))
		for _, f := range fields {
			refused(t, "6.4", "a byte put in", sealed(plain[:f.at]+"\x00"+plain[f.at:]))
			refused(t, "6.4", "a byte taken out", sealed(plain[:f.at]+plain[f.at+1:]))
		}
	}
}

// put is a text with another number at a place.
func put(plain string, at int, n uint64) string {
	b := []byte(plain)
	binary.BigEndian.PutUint64(b[at:], n)
	return string(b)
}

func TestGetLengths(t *testing.T) {
	for _, x := range []api.Schema{{}, whole(), wide()} {
		plain, fields := laid(x)
		for _, f := range fields {
			n := binary.BigEndian.Uint64([]byte(plain[f.at:]))
			if f.what != textLength && f.what != listLength {
				continue
			}
			left := uint64(len(plain) - f.at - 8)
			for _, wrong := range []uint64{
				0, n - 1, n + 1, n + 2, 2 * n, -n, ^n, n + 8, left, left + 1, left / 8, 3, 4, 5, 8, 9, 16, 17, 40, 41,
				n + 1<<8, n + 1<<16, n + 1<<31, n + 1<<32, n + 1<<61, n + 1<<62, n + 1<<63, 1<<63 - 1, 1 << 63, 1<<63 + 1, 1<<64 - 1, 1<<64 - 8, 1<<64 - 2,
			} {
				if wrong != n {
					refused(t, "6.4", "a length that is another", sealed(put(plain, f.at, wrong)))
				}
			}
			if !read(t, "the length that is there", put(plain, f.at, n)) {
				t.Error("6.4: the length that is there")
			}
		}
	}
}

func TestGetBools(t *testing.T) {
	bools := 0
	for _, x := range []api.Schema{whole(), wide()} {
		plain, fields := laid(x)
		for _, f := range fields {
			if f.what != boolNumber {
				continue
			}
			bools++
			for _, n := range []uint64{0, 1} {
				if !read(t, "a bool", put(plain, f.at, n)) {
					t.Error("6.4: a bool", n)
				}
			}
			for i := range 64 {
				for _, n := range []uint64{1 << i, 1<<i | 1, 1<<i - 1, ^uint64(0) << i} {
					if n > 1 {
						refused(t, "6.4", "a bool that is none", sealed(put(plain, f.at, n)))
					}
				}
			}
		}
	}
	if bools != 3+16 {
		t.Error("how many bools", bools)
	}
}

func TestGetNumbers(t *testing.T) {
	good := 0
	plain, fields := laid(whole())
	numbers := []uint64{10, 11, 12, 13, 19, 20, 21, 59999, 60000, 60001, 1<<40 - 1, 1 << 40, 1<<63 - 1, 1 << 63, 1<<63 + 1, 1<<64 - 2, 1<<64 - 1, 0x7ff8000000000000, 0x7ff8000000000001, 1<<32 + 4}
	for n := range uint64(10) {
		numbers = append(numbers, n)
	}
	for _, f := range fields {
		for _, n := range numbers {
			if read(t, "a number that is another", put(plain, f.at, n)) {
				good++
			}
		}
	}
	if good < len(fields) {
		t.Error("too few texts are of a schema", good)
	}
}

func TestGetBytesTurnedAndSealedAnew(t *testing.T) {
	plain, _ := laid(whole())
	good := 0
	for i := range plain {
		for _, n := range []byte("\x00\x01\x02\x03\x04\x05\x06\x08\x09/09:^_`abz{\x7f\x80\xff" + string([]byte{plain[i] + 1, plain[i] - 1})) {
			b := []byte(plain)
			b[i] = n
			if read(t, "a byte that is another", string(b)) {
				good++
			}
		}
	}
	if good < 2*len(plain) {
		t.Error("too few texts are of a schema", good, len(plain))
	}
}

// A length that says more than there is, ahead of many bytes, is given up at once.
func TestGetLong(t *testing.T) {
	many := strings.Repeat("\x00", 1<<22)
	for _, s := range []string{many, eight(0) + eight(1<<18) + many, eight(0) + eight(4) + many, eight(0) + eight(1) + eight(1) + eight(1) + "a" + eight(1<<16) + many, strings.Repeat("\x01", 1<<20)} {
		refused(t, "6.4", "many bytes", sealed(s))
	}
}

// 6.5

func TestTurned(t *testing.T) {
	for _, x := range []api.Schema{{}, whole()} {
		s, e := Put(x)
		if e != api.OK {
			t.Fatal("6.3:", e)
		}
		for i := range s {
			for n := 1; n < 256; n++ {
				b := []byte(s)
				b[i] ^= byte(n)
				refused(t, "6.5", "one byte turned", string(b))
			}
		}
	}
}

// drawn is a schema that may be.
func drawn(r *rand.Rand) api.Schema {
	x := api.Schema{Version: r.Intn(api.MaxTime)}
	names := drawnNames(r)
	for i := range r.Intn(api.MaxTables + 1) {
		x.Next += 1 + r.Intn(9)
		x.Tables = append(x.Tables, drawnTable(r, x.Next, names[i]))
	}
	x.Next += 1 + r.Intn(9)
	return x
}

func drawnNames(r *rand.Rand) []string {
	var names []string
	for len(names) < api.MaxCols {
		const may = "abcdefghijklmnopqrstuvwxyz0123456789_"
		b := []byte{may[r.Intn(26)]}
		for range r.Intn(api.MaxName) {
			b = append(b, may[r.Intn(len(may))])
		}
		if s := string(b); isName(s) && !slices.Contains(names, s) {
			names = append(names, s)
		}
	}
	return names
}

func drawnTable(r *rand.Rand, id int, name string) api.Table {
	may, _ := some()
	t := api.Table{ID: id, Name: name, Next: 13 + r.Intn(maxNext-12)}
	ids := r.Perm(min(t.Next-1, 100))
	cols, indexes := drawnNames(r), drawnNames(r)
	for i := range 1 + r.Intn(api.MaxCols) {
		c := api.Column{ID: ids[i] + 1, Name: cols[i], Kind: 1 + r.Intn(5), State: r.Intn(5), Null: r.Intn(5)}
		if r.Intn(2) == 0 {
			c.Default = may[c.Kind][r.Intn(len(may[c.Kind]))]
		}
		if i == 0 {
			c.State, c.Null, c.Default = api.Public, api.Public, api.Value{}
		}
		t.Cols = append(t.Cols, c)
	}
	for i := range r.Intn(api.MaxIndexes + 1) {
		x := api.Index{ID: ids[api.MaxCols+i] + 1, Name: indexes[i], Unique: r.Intn(2) == 0, State: r.Intn(5)}
		for _, at := range r.Perm(len(t.Cols))[:1+r.Intn(len(t.Cols))] {
			x.Cols = append(x.Cols, t.Cols[at].ID)
		}
		t.Indexes = append(t.Indexes, x)
	}
	return t
}

func TestDrawn(t *testing.T) {
	r := rand.New(rand.NewSource(6))
	for range 2000 {
		x := drawn(r)
		if !mayBe(x) {
			t.Fatalf("the other way refuses %+v", x)
		}
		held(t, "a drawn one", x, true)
	}
}

func TestDrawnAndTurned(t *testing.T) {
	r := rand.New(rand.NewSource(66))
	near := []int{-1, 0, 1, 2, 3, 4, 5, 6, 7, 8, 9}
	good := 0
	for range 8000 {
		plain, fields := laid(drawn(r))
		for range 1 + r.Intn(2) {
			f := fields[r.Intn(len(fields))]
			n := binary.BigEndian.Uint64([]byte(plain[f.at:]))
			switch r.Intn(3) {
			case 0:
				n += uint64(near[r.Intn(len(near))])
			case 1:
				n = uint64(near[r.Intn(len(near))])
			default:
				other := fields[r.Intn(len(fields))]
				n = binary.BigEndian.Uint64([]byte(plain[other.at:]))
			}
			plain = put(plain, f.at, n)
		}
		if read(t, "drawn and turned", plain) {
			good++
		}
		var x api.Schema
		if _, ok := scan(reflect.ValueOf(&x).Elem(), plain); ok {
			held(t, "drawn and turned", x, mayBe(x))
		}
	}
	if good < 800 || good > 7200 {
		t.Error("too few texts of one sort", good)
	}
}

// The rules of all calls

// R3: what is handed in is not changed.
func TestNotChanged(t *testing.T) {
	for _, made := range []func() api.Schema{whole, wide} {
		x := made()
		May(x)
		if _, e := Put(x); e != api.OK || !reflect.DeepEqual(x, made()) {
			t.Error("R3: what was handed in has changed")
		}
	}
}

// spoil writes over all that a schema has, spare room too.
func spoil(x api.Schema) {
	for i := range x.Tables {
		t := &x.Tables[i]
		for j := range t.Indexes {
			cols := t.Indexes[j].Cols[:cap(t.Indexes[j].Cols)]
			for k := range cols {
				cols[k] = -1
			}
		}
		cols, indexes := t.Cols[:cap(t.Cols)], t.Indexes[:cap(t.Indexes)]
		for j := range cols {
			cols[j] = api.Column{ID: -1, Name: "spoilt"}
		}
		for j := range indexes {
			indexes[j] = api.Index{ID: -1, Name: "spoilt"}
		}
	}
	tables := x.Tables[:cap(x.Tables)]
	for i := range tables {
		tables[i] = api.Table{ID: -1, Name: "spoilt"}
	}
}

// R3, R5: what is told is new memory, and the same calls tell the same.
func TestNewMemory(t *testing.T) {
	for _, x := range []api.Schema{{}, whole(), wide()} {
		s, _ := Put(x)
		for range 3 {
			y, e := Get(s)
			z, _ := Get(s)
			if e != api.OK || !same(x, y) || !same(x, z) {
				t.Fatalf("R5: %+v %d", y, e)
			}
			spoil(y)
			if again, _ := Put(x); !same(x, z) || again != s {
				t.Fatal("R3: what was told has changed")
			}
		}
	}
}

// R3: Put keeps nothing of what it was handed.
func TestNotKept(t *testing.T) {
	x := whole()
	s, _ := Put(x)
	kept := strings.Clone(s)
	spoil(x)
	if again, _ := Put(whole()); s != kept || again != kept {
		t.Error("R3: what was handed in is kept")
	}
}

// R3: no two lists of one answer share memory: of each, all that it has room for is written over, and no other changes.
func TestListsApart(t *testing.T) {
	for _, x := range []api.Schema{whole(), wide()} {
		s, _ := Put(x)
		for i := range x.Tables {
			spoilt(t, s, func(y api.Schema) {
				cols := y.Tables[i].Cols
				for len(cols) < cap(cols) {
					cols = append(cols, api.Column{ID: -1})
				}
			})
			spoilt(t, s, func(y api.Schema) {
				indexes := y.Tables[i].Indexes
				for len(indexes) < cap(indexes) {
					indexes = append(indexes, api.Index{ID: -1})
				}
			})
			for j := range x.Tables[i].Indexes {
				spoilt(t, s, func(y api.Schema) {
					cols := y.Tables[i].Indexes[j].Cols
					for len(cols) < cap(cols) {
						cols = append(cols, -1)
					}
				})
				y, _ := Get(s)
				want := copied(y)
				y.Tables[i].Indexes[j].Cols[0] = -1
				want.Tables[i].Indexes[j].Cols[0] = -1
				if !same(y, want) {
					t.Error("R3: lists of one answer share memory")
				}
			}
		}
	}
}

// spoilt asks that what is done to the spare room of what Get tells is not seen in it.
func spoilt(t *testing.T, s string, do func(y api.Schema)) {
	t.Helper()
	y, e := Get(s)
	want := copied(y)
	do(y)
	if e != api.OK || !same(y, want) {
		t.Error("R3: spare room is another list's")
	}
}

// R4: beside an error nothing is told.
func TestNothingBesideErrors(t *testing.T) {
	x := whole()
	x.Next = 0
	plain, _ := laid(x)
	if s, e := Put(x); s != "" || e != api.ErrForm {
		t.Errorf("R4: %x %d", s, e)
	}
	for _, s := range []string{"", "a", sealed(""), sealed(plain), sealed(plain + "\x00"), sealed(plain[:len(plain)-1]), strings.Repeat("\x00", 28), plain} {
		refused(t, "R4", "what is no schema's", s)
	}
}
