package sql

import (
	"falsework/api"
	"falsework/lex"
)

// Kinds of layer 16's tokens that are asked for here. Its words and signs are known by their texts: no name and no value is written so.
const (
	kindEnd   = 0
	kindName  = 2
	kindValue = 3
)

// parser goes through a statement's tokens, the last of which is the end. It stands at the first one that is not taken yet: where it gives up, that is the one that cannot stand there.
type parser struct {
	tokens []lex.Token
	at     int
}

// column is what a table is made of.
type column struct {
	name string
	kind int
}

// giveUp leaves all readers at once; Parse catches it.
func giveUp() {
	panic(api.ErrForm)
}

func next(p *parser) lex.Token {
	return p.tokens[p.at]
}

// took takes a word or a sign, if it is next.
func took(p *parser, text string) bool {
	if next(p).Text != text {
		return false
	}
	p.at++
	return true
}

// take takes words and signs, which must be next.
func take(p *parser, texts ...string) {
	for _, text := range texts {
		if !took(p, text) {
			giveUp()
		}
	}
}

// takeKind takes a token of a kind, which must be next.
func takeKind(p *parser, kind int) lex.Token {
	t := next(p)
	if t.Kind != kind {
		giveUp()
	}
	p.at++
	return t
}

// readList reads parts, at least one, with a word or a sign between any two.
func readList[T any](p *parser, between string, read func(*parser) T) []T {
	list := []T{read(p)}
	for took(p, between) {
		list = append(list, read(p))
	}
	return list
}

// readRow reads a list in brackets.
func readRow[T any](p *parser, read func(*parser) T) []T {
	take(p, "(")
	list := readList(p, ",", read)
	take(p, ")")
	return list
}

// readEnd reads what may stand behind a statement.
func readEnd(p *parser) {
	took(p, ";")
	if next(p).Kind != kindEnd {
		giveUp()
	}
}

func readStmt(p *parser) api.Stmt {
	switch {
	case took(p, "insert"):
		return readInsert(p)
	case took(p, "update"):
		return readUpdate(p)
	case took(p, "delete"):
		return readDelete(p)
	case took(p, "select"):
		return readSelect(p)
	case took(p, "create"):
		return readCreate(p)
	case took(p, "drop"):
		return readDropIndex(p)
	default:
		take(p, "alter")
		return readAlter(p)
	}
}

func readInsert(p *parser) api.Stmt {
	x := api.Stmt{Kind: api.SqlInsert}
	take(p, "into")
	x.Table = readName(p)
	x.Cols = readRow(p, readName)
	take(p, "values")
	x.Vals = readRow(p, readValue)
	return x
}

func readUpdate(p *parser) api.Stmt {
	x := api.Stmt{Kind: api.SqlUpdate}
	x.Table = readName(p)
	take(p, "set")
	x.Sets = readList(p, ",", readSet)
	x.Conds = readWhere(p)
	return x
}

func readDelete(p *parser) api.Stmt {
	x := api.Stmt{Kind: api.SqlDelete}
	take(p, "from")
	x.Table = readName(p)
	x.Conds = readWhere(p)
	return x
}

func readSelect(p *parser) api.Stmt {
	x := api.Stmt{Kind: api.SqlSelect}
	if !took(p, "*") {
		x.Cols = readList(p, ",", readName)
	}
	take(p, "from")
	x.Table = readName(p)
	x.Conds = readWhere(p)
	return x
}

// readCreate reads what is behind the word that a table and an index both begin with.
func readCreate(p *parser) api.Stmt {
	if took(p, "table") {
		return readTable(p)
	}
	unique := took(p, "unique")
	x := readIndex(p)
	x.Kind, x.Unique = api.SqlAddIndex, unique
	x.Cols = readRow(p, readName)
	return x
}

func readTable(p *parser) api.Stmt {
	x := api.Stmt{Kind: api.SqlTable}
	x.Table = readName(p)
	take(p, "(")
	columns := []column{readColumn(p)}
	take(p, "primary", "key")
	if took(p, ",") {
		columns = append(columns, readList(p, ",", readColumn)...)
	}
	take(p, ")")
	for _, c := range columns {
		x.Cols = append(x.Cols, c.name)
		x.Types = append(x.Types, c.kind)
	}
	return x
}

func readDropIndex(p *parser) api.Stmt {
	x := readIndex(p)
	x.Kind = api.SqlDropIndex
	return x
}

// readIndex reads which index is meant.
func readIndex(p *parser) api.Stmt {
	var x api.Stmt
	take(p, "index")
	x.Name = readName(p)
	take(p, "on")
	x.Table = readName(p)
	return x
}

func readAlter(p *parser) api.Stmt {
	take(p, "table")
	x := api.Stmt{Table: readName(p)}
	switch {
	case took(p, "add"):
		readAddColumn(p, &x)
	case took(p, "drop"):
		x.Kind = api.SqlDropColumn
		take(p, "column")
		x.Name = readName(p)
	default:
		take(p, "alter", "column")
		x.Name = readName(p)
		x.Kind = readNull(p)
	}
	return x
}

func readAddColumn(p *parser, x *api.Stmt) {
	x.Kind = api.SqlAddColumn
	take(p, "column")
	x.Name = readName(p)
	x.Type = readType(p)
	if took(p, "default") {
		x.Vals = []api.Value{readValue(p)}
	}
}

// readNull reads what becomes of a column's rule that it must not be null.
func readNull(p *parser) int {
	kind := api.SqlSetNull
	if !took(p, "set") {
		kind = api.SqlDropNull
		take(p, "drop")
	}
	take(p, "not", "null")
	return kind
}

func readWhere(p *parser) []api.Cond {
	if !took(p, "where") {
		return nil
	}
	return readList(p, "and", readCond)
}

func readCond(p *parser) api.Cond {
	c := api.Cond{Col: readName(p)}
	if took(p, "is") {
		c.Sign = api.CondNull
		if took(p, "not") {
			c.Sign = api.CondSome
		}
		take(p, "null")
		return c
	}
	c.Sign = readSign(p)
	c.V = readValue(p)
	return c
}

func readSign(p *parser) int {
	switch {
	case took(p, "="):
		return api.CondEq
	case took(p, "<"):
		return api.CondLt
	default:
		take(p, ">")
		return api.CondGt
	}
}

func readSet(p *parser) api.Set {
	x := api.Set{Col: readName(p)}
	take(p, "=")
	// Another name is left for readValue, which takes none.
	if took(p, x.Col) {
		x.Add = true
		take(p, "+")
	}
	x.V = readValue(p)
	return x
}

func readColumn(p *parser) column {
	name := readName(p)
	return column{name, readType(p)}
}

func readType(p *parser) int {
	switch {
	case took(p, "bool"):
		return api.KBool
	case took(p, "int"):
		return api.KInt
	case took(p, "float"):
		return api.KFloat
	case took(p, "bytes"):
		return api.KBytes
	default:
		take(p, "text")
		return api.KText
	}
}

func readName(p *parser) string {
	return takeKind(p, kindName).Text
}

func readValue(p *parser) api.Value {
	switch {
	case took(p, "null"):
		return api.Value{Kind: api.KNull}
	case took(p, "true"):
		return api.Value{Kind: api.KBool, N: 1}
	case took(p, "false"):
		return api.Value{Kind: api.KBool, N: 0}
	default:
		return takeKind(p, kindValue).V
	}
}
