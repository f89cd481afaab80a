package sql

import (
	"fmt"
	"math"
	"math/rand"
	"slices"
	"strings"
	"testing"

	"falsework/api"
	"falsework/flo"
	"falsework/lex"
)

// drawer goes ways through the grammar; last is the name that was drawn last.
type drawer struct {
	*rand.Rand
	last string
}

func newDrawer(seed int64) *drawer { return &drawer{Rand: rand.New(rand.NewSource(seed))} }

func pick[T any](d *drawer, l []T) T { return l[d.Intn(len(l))] }

// text is n bytes of a set.
func (d *drawer) text(n int, set string) string {
	b := make([]byte, n)
	for i := range b {
		b[i] = set[d.Intn(len(set))]
	}
	return string(b)
}

// name is a name, most of them short and seen before.
func (d *drawer) name() string {
	d.last = pick(d, []string{"a", "a", "b", "t", "x", "f", "a_9", "selects", "sixteen_letters_"})
	if d.Intn(8) == 0 {
		d.last = "n" + d.text(d.Intn(api.MaxName), "abxyz09_")
		if !isName(d.last) {
			d.last = "n"
		}
	}
	return d.last
}

// value is one that may stand in a statement.
func (d *drawer) value() api.Value {
	switch d.Intn(8) {
	case 0:
		return api.Value{}
	case 1:
		return api.Value{Kind: api.KBool, N: int64(d.Intn(2))}
	case 2:
		return api.Value{Kind: api.KInt, N: pick(d, []int64{math.MinInt64, math.MaxInt64, 0, -1, 1})}
	case 3:
		return api.Value{Kind: api.KInt, N: int64(d.Uint64()) >> d.Intn(64)}
	case 4:
		return api.Value{Kind: api.KFloat, F: flo.Canon(d.Uint64() >> d.Intn(64))}
	case 5:
		return api.Value{Kind: api.KBytes, S: d.text(pick(d, []int{0, 1, 2, 3, 5, api.MaxText}), "\x00\x01'a\x7f\xff")}
	case 6:
		return api.Value{Kind: api.KText, S: d.text(pick(d, []int{0, 1, 2, 3, 5, api.MaxText}), "''  (),;ax0~=A")}
	default:
		return api.Value{Kind: api.KText, S: pick(d, []string{"", "'", "''", "select", "null", " ", "it's"})}
	}
}

// tokens are the texts of a way through the grammar.
func (d *drawer) tokens(n node) []string {
	switch n.leaf {
	case "":
	case "NAME":
		return []string{d.name()}
	case "SAME":
		return []string{d.last}
	case "VALUE":
		return []string{saidValue(d.value())}
	case "END":
		return nil
	default:
		return []string{strings.Trim(n.leaf, "'")}
	}
	if n.one {
		return d.tokens(pick(d, n.parts))
	}
	var all []string
	times := 1
	if n.many {
		times = pick(d, []int{0, 0, 1, 1, 2, 3, 4, 7, 8})
	}
	for range times {
		for _, part := range n.parts {
			all = append(all, d.tokens(part)...)
		}
	}
	return all
}

// laid lays tokens one behind the other, with blanks, or with none where none is needed.
func (d *drawer) laid(tokens []string) string {
	s := d.text(d.Intn(2)*d.Intn(3), " \t\n")
	for i, x := range tokens {
		if i > 0 && (wants(tokens[i-1], x) || d.Intn(2) == 0) {
			s += d.text(1+d.Intn(2)*d.Intn(2), " \t\n")
		}
		s += x
	}
	return s + d.text(d.Intn(2)*d.Intn(3), " \t\n")
}

// wants tells whether a token is another one, or two others, where it stands right ahead of the next.
func wants(a, b string) bool {
	l, _, e := lex.Lex(a + b)
	return e != api.OK || len(l) != 3 || l[0].Text != a || l[1].Text != b
}

// turned is tokens of which some are left out, twice, in other places, or others.
func (d *drawer) turned(tokens []string) []string {
	tokens = slices.Clone(tokens)
	for range 1 + d.Intn(2) {
		if len(tokens) == 0 {
			return tokens
		}
		i, j := d.Intn(len(tokens)), d.Intn(len(tokens))
		switch d.Intn(6) {
		case 0:
			tokens = slices.Delete(tokens, i, i+1)
		case 1:
			tokens = slices.Insert(tokens, i, tokens[i])
		case 2:
			tokens[i] = d.other()
		case 3:
			tokens = slices.Insert(tokens, i, d.other())
		case 4:
			tokens[i], tokens[j] = tokens[j], tokens[i]
		default:
			tokens = tokens[:i]
		}
	}
	return tokens
}

// other is any token, or a text that is none.
func (d *drawer) other() string {
	switch d.Intn(8) {
	case 0:
		return d.name()
	case 1:
		return saidValue(d.value())
	case 2, 3:
		return d.text(1, "(),;=<>+*")
	case 4:
		return pick(d, []string{"A", "-", "00", "'", "x'0'", "5a", "\x00", "_", "f'00'"})
	default:
		return pick(d, allWords())
	}
}

// 17.1, 17.2, 17.3: ways through the grammar, laid with blanks and without.
func TestDrawnStatements(t *testing.T) {
	d := newDrawer(17)
	told := make(map[int]int)
	for range 15000 {
		s := d.laid(d.tokens(root))
		holds(t, s)
		if x, _, e := Parse(s); e == api.OK {
			told[x.Kind]++
			writes(t, x)
		}
		if t.Failed() {
			return
		}
	}
	for kind := api.SqlInsert; kind <= api.SqlDropNull; kind++ {
		if told[kind] < 100 {
			t.Errorf("only %d statements of kind %d were told", told[kind], kind)
		}
	}
}

// 17.1: such ways, with some tokens turned.
func TestDrawnFaults(t *testing.T) {
	d := newDrawer(171)
	wrong := make(map[api.Errno]int)
	for range 30000 {
		s := d.laid(d.turned(d.tokens(root)))
		holds(t, s)
		x, _, e := Parse(s)
		wrong[e]++
		if e == api.OK {
			writes(t, x)
		}
		if t.Failed() {
			return
		}
	}
	if wrong[api.OK] < 1000 || wrong[api.ErrForm] < 1000 || wrong[api.ErrLong] < 100 {
		t.Errorf("what was told: %v", wrong)
	}
}

// 17.1: tokens one behind the other as they come, many of them such as statements begin with.
func TestDrawnTokens(t *testing.T) {
	d := newDrawer(172)
	beginnings := []string{"", "insert into t ( ", "update t set ", "delete from t ", "select ", "create ", "create table t ( a int ", "drop ", "alter table t ", "delete from t where ", "update t set a = "}
	for range 15000 {
		s := pick(d, beginnings)
		for range d.Intn(8) {
			s += d.other() + " "
		}
		holds(t, s)
		if t.Failed() {
			return
		}
	}
}

// 17.1: such ways, with some bytes turned.
func TestDrawnTexts(t *testing.T) {
	d := newDrawer(173)
	for range 15000 {
		s := d.laid(d.tokens(root))
		for range 1 + d.Intn(3) {
			i, c := d.Intn(len(s)), d.text(1, " (),;=<>+*'ax0-_A\n\x00")
			switch d.Intn(4) {
			case 0:
				s = s[:i] + c + s[i:]
			case 1:
				s = s[:i] + s[i+1:] + c
			case 2:
				s = s[:i] + c + s[i+1:]
			default:
				s = s[:i] + c
			}
		}
		holds(t, s)
		if t.Failed() {
			return
		}
	}
}

// statement is a drawn one that Parse tells.
func (d *drawer) statement() api.Stmt {
	for {
		if x, _, e := Parse(strings.Join(d.tokens(root), " ")); e == api.OK {
			return x
		}
	}
}

// spoil turns a field of x, most often such that no text says it.
func (d *drawer) spoil(x *api.Stmt) {
	names := []string{"", " ", "a", "b", "t", "A", "a b", "a ", "select", "null", "'a'", "a)", "5", "_", "sixteen_letters_n", "t where a = 1", "t;"}
	switch d.Intn(14) {
	case 0:
		x.Kind = pick(d, []int{0, -1, 12, 13, math.MinInt, math.MaxInt, 1 + d.Intn(11), 1 + d.Intn(11), 1 + d.Intn(11)})
	case 1:
		x.Table = pick(d, names)
	case 2:
		x.Name = pick(d, names)
	case 3:
		x.Unique = !x.Unique
	case 4:
		x.Type = pick(d, []int{0, 1, 2, 3, 4, 5, 6, -1, math.MaxInt})
	case 5:
		x.Cols = spoilt(d, x.Cols, func() string { return pick(d, names) })
	case 6, 7:
		x.Vals = spoilt(d, x.Vals, d.spoiltValue)
	case 8, 9:
		x.Types = spoilt(d, x.Types, func() int { return d.Intn(8) - 1 })
	case 10, 11:
		x.Sets = spoilt(d, x.Sets, func() api.Set {
			return api.Set{Col: pick(d, names), Add: d.Intn(2) == 0, V: d.spoiltValue()}
		})
	default:
		x.Conds = spoilt(d, x.Conds, func() api.Cond {
			return api.Cond{Col: pick(d, names), Sign: d.Intn(7), V: d.spoiltValue()}
		})
	}
}

// spoilt is a list with a part more, less, or another.
func spoilt[T any](d *drawer, l []T, part func() T) []T {
	l = slices.Clone(l)
	switch i := d.Intn(len(l) + 1); {
	case d.Intn(8) == 0:
		return []T{}
	case i == len(l):
		return append(l, part())
	case d.Intn(2) == 0:
		return slices.Delete(l, i, i+1)
	default:
		l[i] = part()
		return l
	}
}

// spoiltValue is a value that may be, or one that only just may not.
func (d *drawer) spoiltValue() api.Value {
	v := d.value()
	switch d.Intn(10) {
	case 0:
		v.Kind = d.Intn(9) - 1
	case 1:
		v.N = int64(d.Intn(4) - 1)
	case 2:
		v.F = pick(d, []uint64{1, 1 << 63, 0x7ff8000000000001, 0xfff8000000000000, 0})
	case 3:
		v.S = d.text(pick(d, []int{0, 1, 1, 40, 41}), "a'\n\x7f\x1f~ ")
	}
	return v
}

// 17.2, 17.3: statements with some fields turned.
func TestDrawnSpoiltStatements(t *testing.T) {
	d := newDrawer(174)
	told := make(map[bool]int)
	for range 30000 {
		x := d.statement()
		for range 1 + d.Intn(2)*d.Intn(3) {
			d.spoil(&x)
		}
		was := plain(x)
		writes(t, x)
		if !alike(x, was) {
			t.Errorf("R3: Text has turned %+v to %+v", was, x)
		}
		if t.Failed() {
			return
		}
		_, e := Text(x)
		told[e == api.OK]++
	}
	if told[true] < 1000 || told[false] < 1000 {
		t.Errorf("what was told: %v", told)
	}
}

// 17.3: of each text that Parse tells a statement of, layer 16's tokens with one blank between are that statement's Text, where values and the end are in their one form.
func TestTextIsTheTokens(t *testing.T) {
	d := newDrawer(175)
	for range 15000 {
		tokens := d.tokens(root)
		s := d.laid(tokens)
		x, _, e := Parse(s)
		if e != api.OK {
			continue
		}
		want := strings.TrimSuffix(strings.Join(tokens, " "), " ;")
		got, e := Text(x)
		if len(want) > api.MaxSql {
			want = ""
		}
		if got != want || (e == api.OK) != (want != "") {
			t.Fatalf("17.2: Text of Parse(%q): %q %d, not %q", s, got, e, want)
		}
	}
}

// 17.1: each token of each sample left out, twice, and turned into each other one.
func TestEachTokenTurned(t *testing.T) {
	others := append(allWords(), strings.Split("( ) , ; = < > + *", " ")...)
	others = append(others, "zz", "a", "t", "5", "-5", "'s'", "''", "x'00'", "f'3ff0000000000000'", "A", "00", "'", "zz zz", "; ;", "* *")
	for _, s := range samples() {
		tokens := splitTokens(t, s)
		for i := range tokens {
			for _, other := range append(others, "", tokens[i]+" "+tokens[i]) {
				turned := slices.Concat(tokens[:i], []string{other}, tokens[i+1:])
				holds(t, strings.Join(turned, " "))
				holds(t, "\n"+strings.Join(turned, "  ")+" ;\t")
			}
			if i > 0 {
				swapped := slices.Concat(tokens[:i-1], []string{tokens[i], tokens[i-1]}, tokens[i+1:])
				holds(t, strings.Join(swapped, " "))
			}
			if t.Failed() {
				return
			}
		}
	}
}

// 17.1: each sample, up to each of its bytes and tokens, with something else there.
func TestEachPlaceOfTheEnd(t *testing.T) {
	for _, s := range samples() {
		for i := range len(s) {
			for _, behind := range []string{"", " ", ";", " ; ", "\n\n", ";;", " A", ")", " zz", " 5", " and", " where"} {
				holds(t, s[:i]+behind)
			}
		}
		if t.Failed() {
			return
		}
	}
}

func splitTokens(t *testing.T, s string) []string {
	t.Helper()
	l, _, e := lex.Lex(s)
	if e != api.OK {
		t.Fatal("a sample:", s, e)
	}
	return texts(l)
}

// samples are statements of each form, with all that may be there and without.
func samples() []string {
	all := []string{
		"insert into t ( a ) values ( 1 )",
		"insert into t ( a , b , c ) values ( null , true , 'it''s' )",
		"update t set a = 1",
		"update t set a = a + 1 , b = false , c = c + null where a = 1 and b is null",
		"delete from t",
		"delete from t where a < f'3ff0000000000000'",
		"delete from t where a = 1 and b is not null and c > x'00' and d is null",
		"select * from t",
		"select a from t where a is null",
		"select a , b , c from t where a > -5",
		"create table t ( a int primary key )",
		"create table t ( a text primary key , b bool , c float )",
		"create index i on t ( a )",
		"create unique index i on t ( a , b )",
		"drop index i on t",
		"alter table t add column c bytes",
		"alter table t add column c int default 5",
		"alter table t drop column c",
		"alter table t alter column c set not null",
		"alter table t alter column c drop not null",
	}
	for n := api.MaxCols - 1; n <= api.MaxCols+1; n++ {
		all = append(all, fmt.Sprintf("insert into t ( a%s ) values ( 1%s )", strings.Repeat(" , a", n-1), strings.Repeat(" , 1", n-1)))
	}
	return all
}
