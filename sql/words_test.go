package sql

import (
	"fmt"
	"reflect"
	"regexp"
	"slices"
	"strings"
	"testing"

	"falsework/api"
	"falsework/lex"
	"falsework/value"
)

// A plain reckoning by the words of chapter 17, against which the program is held: all ways through the grammar, as the document writes it, are gone at once; where the last of them ends is the first token that cannot stand there. What a statement means is then told by where its words stand.

// allWords are layer 16's.
func allWords() []string {
	return strings.Fields("insert into values update set where and delete from select create unique table index on drop alter add column default not null is primary key bool int float bytes text true false")
}

// The grammar, as the document has it; signs are in quotes, to be told from its own; SAME is the NAME of the SET.
const (
	forms = `
		insert into NAME '(' NAME { ',' NAME } ')' values '(' VALUE { ',' VALUE } ')'
		update NAME set NAME '=' SET { ',' NAME '=' SET } [ where COND { and COND } ]
		delete from NAME [ where COND { and COND } ]
		select ( '*' | NAME { ',' NAME } ) from NAME [ where COND { and COND } ]
		create table NAME '(' NAME TYPE primary key { ',' NAME TYPE } ')'
		create [ unique ] index NAME on NAME '(' NAME { ',' NAME } ')'
		drop index NAME on NAME
		alter table NAME add column NAME TYPE [ default VALUE ]
		alter table NAME drop column NAME
		alter table NAME alter column NAME ( set not null | drop not null )`
	setForm  = `( VALUE | SAME '+' VALUE )`
	condForm = `( NAME ( '=' | '<' | '>' ) VALUE | NAME is [ not ] null )`
	typeForm = `( bool | int | float | bytes | text )`
)

// node is a piece of the grammar: a token, if it has no parts; else parts one behind the other, or one of them; many: as often as one likes, none too.
type node struct {
	leaf  string
	one   bool
	many  bool
	parts []node
}

// root is made once.
var root = func() node {
	all := node{one: true}
	whole := strings.NewReplacer(" SET ", " "+setForm+" ", " COND ", " "+condForm+" ", " TYPE ", " "+typeForm+" ")
	for line := range strings.SplitSeq(strings.TrimSpace(forms), "\n") {
		form, _ := readNode(strings.Fields(whole.Replace(line)))
		all.parts = append(all.parts, form)
	}
	return node{parts: []node{all, optional(node{leaf: "';'"}), {leaf: "END"}}}
}()

func optional(n node) node { return node{one: true, parts: []node{n, {}}} }

// readNode reads a piece of the grammar up to the bracket that closes it, and tells what is behind that.
func readNode(l []string) (node, []string) {
	all := node{one: true, parts: []node{{}}}
	for len(l) > 0 {
		part, word := node{leaf: l[0]}, l[0]
		l = l[1:]
		switch word {
		case ")", "]", "}":
			return all, l
		case "|":
			all.parts = append(all.parts, node{})
			continue
		case "(":
			part, l = readNode(l)
		case "[":
			part, l = readNode(l)
			part = optional(part)
		case "{":
			part, l = readNode(l)
			part = node{many: true, parts: []node{part}}
		}
		last := &all.parts[len(all.parts)-1]
		last.parts = append(last.parts, part)
	}
	return all, nil
}

// walk goes through the grammar over tokens: far is the last place that a way has come to.
type walk struct {
	tokens []lex.Token
	far    int
}

// ends are the places behind all ways through n from a place on.
func (w *walk) ends(n node, from int) []int {
	switch {
	case n.leaf != "":
		w.far = max(w.far, from)
		if w.stands(n.leaf, from) {
			return []int{from + 1}
		}
		return nil
	case n.one:
		var all []int
		for _, part := range n.parts {
			all = append(all, w.ends(part, from)...)
		}
		return all
	case n.many:
		all := []int{from}
		for i := 0; i < len(all); i++ {
			all = append(all, w.ends(n.parts[0], all[i])...)
		}
		return all
	}
	all := []int{from}
	for _, part := range n.parts {
		var behind []int
		for _, at := range all {
			behind = append(behind, w.ends(part, at)...)
		}
		slices.Sort(behind)
		all = slices.Compact(behind)
	}
	return all
}

// stands tells whether a token is what the grammar has.
func (w *walk) stands(leaf string, at int) bool {
	if at >= len(w.tokens) {
		return false
	}
	x := w.tokens[at]
	switch leaf {
	case "NAME":
		return x.Kind == 2
	case "SAME":
		return x.Kind == 2 && x.Text == w.tokens[at-2].Text
	case "VALUE":
		return x.Kind == 3 || x.Kind == 1 && slices.Contains([]string{"null", "true", "false"}, x.Text)
	case "END":
		return x.Kind == 0
	}
	return leaf == x.Text && x.Kind == 1 || leaf == "'"+x.Text+"'" && x.Kind == 4
}

// reckoned is what Parse must tell.
func reckoned(s string) (api.Stmt, int, api.Errno) {
	l, at, e := lex.Lex(s)
	if e != api.OK {
		return api.Stmt{}, at, e
	}
	w := walk{tokens: l}
	if len(w.ends(root, 0)) == 0 {
		return api.Stmt{}, l[w.far].At, api.ErrForm
	}
	x := meant(l)
	if len(x.Cols) > 8 || len(x.Vals) > 8 || len(x.Sets) > 8 || len(x.Conds) > 4 {
		return api.Stmt{}, 0, api.ErrLong
	}
	return x, 0, api.OK
}

// texts are what stands in tokens, without the end and what may stand ahead of it.
func texts(l []lex.Token) []string {
	var all []string
	for _, x := range l {
		if x.Kind != 0 && x.Text != ";" {
			all = append(all, x.Text)
		}
	}
	return all
}

// meant is the statement of tokens that have one of the forms.
func meant(l []lex.Token) api.Stmt {
	words := texts(l)
	l = l[:len(words)]
	has := func(s string) bool { return slices.Contains(words, s) }
	// behind is the name right behind a word.
	behind := func(s string) string { return words[slices.Index(words, s)+1] }
	// part is what is behind a word, up to another one.
	part := func(from, to string) []lex.Token {
		rest, i := l, slices.Index(words, from)
		rest = rest[i+1:]
		if end := slices.Index(words[i+1:], to); end >= 0 {
			rest = rest[:end]
		}
		return rest
	}
	x := api.Stmt{Kind: kindOf(words)}
	switch x.Kind {
	case api.SqlInsert:
		x.Table, x.Cols, x.Vals = behind("into"), named(part("(", ")")), valued(part("values", ""))
	case api.SqlUpdate:
		x.Table, x.Sets = behind("update"), setsOf(part("set", "where"))
	case api.SqlDelete:
		x.Table = behind("from")
	case api.SqlSelect:
		x.Table, x.Cols = behind("from"), named(part("select", "from"))
	case api.SqlTable:
		x.Table, x.Cols, x.Types = behind("table"), named(part("(", ")")), typed(part("(", ")"))
	case api.SqlAddIndex:
		x.Table, x.Name, x.Cols, x.Unique = behind("on"), behind("index"), named(part("(", ")")), has("unique")
	case api.SqlDropIndex:
		x.Table, x.Name = behind("on"), behind("index")
	case api.SqlAddColumn:
		x.Table, x.Name, x.Type = behind("table"), behind("column"), typed(l)[0]
		if has("default") {
			x.Vals = valued(part("default", ""))
		}
	default:
		x.Table, x.Name = behind("table"), behind("column")
	}
	if has("where") {
		x.Conds = condsOf(part("where", ""))
	}
	return x
}

// beginnings tell the forms; of several that fit the first counts.
var beginnings = []struct {
	like *regexp.Regexp
	kind int
}{
	{regexp.MustCompile(`^insert `), api.SqlInsert}, {regexp.MustCompile(`^update `), api.SqlUpdate},
	{regexp.MustCompile(`^delete `), api.SqlDelete}, {regexp.MustCompile(`^select `), api.SqlSelect},
	{regexp.MustCompile(`^create table `), api.SqlTable}, {regexp.MustCompile(`^create `), api.SqlAddIndex}, {regexp.MustCompile(`^drop `), api.SqlDropIndex},
	{regexp.MustCompile(`^alter table \w+ add`), api.SqlAddColumn}, {regexp.MustCompile(`^alter table \w+ drop`), api.SqlDropColumn},
	{regexp.MustCompile(`^alter table \w+ alter column \w+ set`), api.SqlSetNull}, {regexp.MustCompile(`^alter `), api.SqlDropNull},
}

func kindOf(words []string) int {
	s := strings.Join(words, " ")
	for _, c := range beginnings {
		if c.like.MatchString(s) {
			return c.kind
		}
	}
	return 0
}

func named(l []lex.Token) []string {
	var all []string
	for _, x := range l {
		if x.Kind == 2 {
			all = append(all, x.Text)
		}
	}
	return all
}

func typed(l []lex.Token) []int {
	var all []int
	for _, x := range l {
		if i := slices.Index([]string{"bool", "int", "float", "bytes", "text"}, x.Text); i >= 0 {
			all = append(all, []int{api.KBool, api.KInt, api.KFloat, api.KBytes, api.KText}[i])
		}
	}
	return all
}

func valueOf(x lex.Token) api.Value {
	switch x.Text {
	case "true":
		return api.Value{Kind: api.KBool, N: 1}
	case "false":
		return api.Value{Kind: api.KBool}
	}
	return x.V
}

func valued(l []lex.Token) []api.Value {
	var all []api.Value
	for _, x := range l {
		if x.Kind == 3 || x.Kind == 1 {
			all = append(all, valueOf(x))
		}
	}
	return all
}

// parted is tokens between others.
func parted(l []lex.Token, by string) [][]lex.Token {
	all := [][]lex.Token{nil}
	for _, x := range l {
		if x.Text == by {
			all = append(all, nil)
			continue
		}
		all[len(all)-1] = append(all[len(all)-1], x)
	}
	return all
}

func setsOf(l []lex.Token) []api.Set {
	var all []api.Set
	for _, p := range parted(l, ",") {
		all = append(all, api.Set{Col: p[0].Text, Add: len(p) == 5, V: valueOf(p[len(p)-1])})
	}
	return all
}

func condsOf(l []lex.Token) []api.Cond {
	var all []api.Cond
	for _, p := range parted(l, "and") {
		c := api.Cond{Col: p[0].Text, V: valueOf(p[len(p)-1])}
		switch {
		case len(p) == 4:
			c.Sign = api.CondSome
		case p[1].Text == "is":
			c.Sign = api.CondNull
		default:
			c.Sign = map[string]int{"=": api.CondEq, "<": api.CondLt, ">": api.CondGt}[p[1].Text]
		}
		all = append(all, c)
	}
	return all
}

// holds asks Parse of s, and holds what it tells against the reckoning.
func holds(t *testing.T, s string) {
	t.Helper()
	got, at, e := Parse(s)
	want, place, wrong := reckoned(s)
	if !reflect.DeepEqual(got, want) || at != place || e != wrong {
		t.Errorf("17.1: Parse(%q): %+v %d %d, not %+v %d %d", s, got, at, e, want, place, wrong)
	}
}

// What Text must tell, by the words of 17.2: of each form its fields, and what they may be.

// said is a statement's text; false, if there is none.
func said(x api.Stmt) (string, bool) {
	rest := x
	rest.Kind, rest.Table = 0, ""
	text, may := "", isName(x.Table)
	switch x.Kind {
	case api.SqlInsert:
		rest.Cols, rest.Vals = nil, nil
		text = fmt.Sprintf("insert into %s ( %s ) values ( %s )", x.Table, comma(x.Cols), saidValues(x.Vals, " , "))
		may = may && row(x.Cols) && row(x.Vals)
	case api.SqlUpdate:
		rest.Sets, rest.Conds = nil, nil
		text = fmt.Sprintf("update %s set %s%s", x.Table, saidSets(x.Sets), saidConds(x.Conds))
		may = may && row(x.Sets)
	case api.SqlDelete:
		rest.Conds = nil
		text = fmt.Sprintf("delete from %s%s", x.Table, saidConds(x.Conds))
	case api.SqlSelect:
		rest.Cols, rest.Conds = nil, nil
		text = fmt.Sprintf("select %s from %s%s", comma(x.Cols), x.Table, saidConds(x.Conds))
		if len(x.Cols) == 0 {
			text = fmt.Sprintf("select * from %s%s", x.Table, saidConds(x.Conds))
		}
	case api.SqlTable:
		rest.Cols, rest.Types = nil, nil
		text = fmt.Sprintf("create table %s ( %s )", x.Table, saidColumns(x.Cols, x.Types))
		may = may && row(x.Cols) && len(x.Types) == len(x.Cols)
	case api.SqlAddIndex:
		rest.Name, rest.Cols, rest.Unique = "", nil, false
		text = fmt.Sprintf("create %sindex %s on %s ( %s )", map[bool]string{true: "unique "}[x.Unique], x.Name, x.Table, comma(x.Cols))
		may = may && isName(x.Name) && row(x.Cols)
	case api.SqlDropIndex:
		rest.Name = ""
		text = fmt.Sprintf("drop index %s on %s", x.Name, x.Table)
		may = may && isName(x.Name)
	default:
		return saidAlter(x, rest)
	}
	for _, s := range x.Cols {
		may = may && isName(s)
	}
	return toldBy(text, may && mayAll(x) && nothing(rest))
}

func saidAlter(x, rest api.Stmt) (string, bool) {
	rest.Name = ""
	kinds := map[int]string{api.SqlAddColumn: "add column %s", api.SqlDropColumn: "drop column %s", api.SqlSetNull: "alter column %s set not null", api.SqlDropNull: "alter column %s drop not null"}
	form, may := kinds[x.Kind]
	text := fmt.Sprintf("alter table %s "+form, x.Table, x.Name)
	if x.Kind == api.SqlAddColumn {
		rest.Type, rest.Vals = 0, nil
		text += " " + saidType(x.Type)
		if len(x.Vals) == 1 {
			text += " default " + saidValues(x.Vals, "")
		}
		may = may && len(x.Vals) <= 1 && x.Type >= api.KBool && x.Type <= api.KText
	}
	return toldBy(text, may && isName(x.Table) && isName(x.Name) && mayAll(x) && nothing(rest))
}

func toldBy(text string, may bool) (string, bool) {
	if !may || len(text) > 400 {
		return "", false
	}
	return text, true
}

// mayAll tells whether all values, types and signs that a statement has may be in one.
func mayAll(x api.Stmt) bool {
	for _, v := range x.Vals {
		if !mayStand(v) {
			return false
		}
	}
	for _, p := range x.Sets {
		if !isName(p.Col) || !mayStand(p.V) {
			return false
		}
	}
	for _, c := range x.Conds {
		none := c.Sign == api.CondNull || c.Sign == api.CondSome
		if !isName(c.Col) || !mayStand(c.V) || none && c.V != (api.Value{}) || c.Sign < api.CondEq || c.Sign > api.CondSome {
			return false
		}
	}
	for _, kind := range x.Types {
		if kind < api.KBool || kind > api.KText {
			return false
		}
	}
	return len(x.Conds) <= 4
}

// nothing tells whether a statement has nothing.
func nothing(x api.Stmt) bool {
	return x.Kind == 0 && x.Table == "" && x.Name == "" && !x.Unique && x.Type == 0 && len(x.Cols)+len(x.Vals)+len(x.Sets)+len(x.Conds)+len(x.Types) == 0
}

var (
	nameLike = regexp.MustCompile(`\A[a-z][a-z0-9_]{0,15}\z`)
	textLike = regexp.MustCompile(`\A[ -~]*\z`)
)

func isName(s string) bool { return nameLike.MatchString(s) && !slices.Contains(allWords(), s) }

// mayStand tells whether a value may stand in a statement: a text has none but bytes from 32 to 126.
func mayStand(v api.Value) bool {
	return value.May(v) && (v.Kind != api.KText || textLike.MatchString(v.S))
}

func row[T any](l []T) bool { return 1 <= len(l) && len(l) <= 8 }

func comma(l []string) string { return strings.Join(l, " , ") }

func saidType(kind int) string {
	return map[int]string{api.KBool: "bool", api.KInt: "int", api.KFloat: "float", api.KBytes: "bytes", api.KText: "text"}[kind]
}

func saidValue(v api.Value) string {
	switch v.Kind {
	case api.KNull:
		return "null"
	case api.KBool:
		return fmt.Sprint(v.N == 1)
	case api.KInt:
		return fmt.Sprint(v.N)
	case api.KFloat:
		return fmt.Sprintf("f'%016x'", v.F)
	case api.KBytes:
		return fmt.Sprintf("x'%x'", v.S)
	}
	return "'" + strings.Join(strings.Split(v.S, "'"), "''") + "'"
}

func saidValues(l []api.Value, between string) string {
	var all []string
	for _, v := range l {
		all = append(all, saidValue(v))
	}
	return strings.Join(all, between)
}

func saidSets(l []api.Set) string {
	var all []string
	for _, p := range l {
		s := fmt.Sprintf("%s = %s", p.Col, saidValue(p.V))
		if p.Add {
			s = fmt.Sprintf("%s = %s + %s", p.Col, p.Col, saidValue(p.V))
		}
		all = append(all, s)
	}
	return comma(all)
}

func saidConds(l []api.Cond) string {
	var all []string
	for _, c := range l {
		switch c.Sign {
		case api.CondNull:
			all = append(all, c.Col+" is null")
		case api.CondSome:
			all = append(all, c.Col+" is not null")
		default:
			all = append(all, fmt.Sprintf("%s %s %s", c.Col, map[int]string{api.CondEq: "=", api.CondLt: "<", api.CondGt: ">"}[c.Sign], saidValue(c.V)))
		}
	}
	if len(all) == 0 {
		return ""
	}
	return " where " + strings.Join(all, " and ")
}

func saidColumns(names []string, types []int) string {
	var all []string
	for i := range min(len(names), len(types)) {
		all = append(all, names[i]+" "+saidType(types[i])+map[bool]string{true: " primary key"}[i == 0])
	}
	return comma(all)
}

// writes asks Text of x, and holds what it tells against the reckoning; what it tells must be read as x again.
func writes(t *testing.T, x api.Stmt) {
	t.Helper()
	want, may := said(x)
	got, e := Text(x)
	if got != want || e != map[bool]api.Errno{true: api.OK, false: api.ErrForm}[may] {
		t.Errorf("17.2: Text(%+v): %q %d, not %q %t", x, got, e, want, may)
	}
	if e == api.OK {
		sameAgain(t, x, got)
	}
}

// sameAgain asks whether a text is read as x, and that is written as the same text.
func sameAgain(t *testing.T, x api.Stmt, text string) {
	t.Helper()
	back, at, e := Parse(text)
	if !alike(back, x) || at != 0 || e != api.OK {
		t.Errorf("17.3: Parse(%q): %+v %d %d, not %+v", text, back, at, e, x)
	}
	if again, e := Text(back); again != text || e != api.OK {
		t.Errorf("17.3: Text of Parse(%q): %q %d", text, again, e)
	}
}

// alike holds statements against each other: a nil list and an empty one are one.
func alike(a, b api.Stmt) bool { return reflect.DeepEqual(plain(a), plain(b)) }

// plain is x in new memory, its empty lists nil.
func plain(x api.Stmt) api.Stmt {
	x.Cols, x.Vals, x.Sets = listOf(x.Cols), listOf(x.Vals), listOf(x.Sets)
	x.Conds, x.Types = listOf(x.Conds), listOf(x.Types)
	return x
}

func listOf[T any](l []T) []T { return append([]T(nil), l...) }
