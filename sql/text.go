package sql

import (
	"strconv"
	"strings"

	"falsework/api"
	"falsework/value"
)

// floatDigits is how many digits the bits of a float have.
const floatDigits = 16

// stmtText is what a statement is written as. What no statement may have is written as anything: Parse tells nothing that has it.
func stmtText(x api.Stmt) string {
	switch x.Kind {
	case api.SqlInsert:
		return "insert into " + x.Table + namesText(x.Cols) + " values ( " + listText(x.Vals, " , ", valueText) + " )"
	case api.SqlUpdate:
		return "update " + x.Table + " set " + listText(x.Sets, " , ", setText) + whereText(x.Conds)
	case api.SqlDelete:
		return "delete from " + x.Table + whereText(x.Conds)
	case api.SqlSelect:
		return "select " + shownText(x.Cols) + " from " + x.Table + whereText(x.Conds)
	case api.SqlTable:
		return "create table " + x.Table + columnsText(x.Cols, x.Types)
	case api.SqlAddIndex:
		return "create " + uniqueText(x.Unique) + "index " + x.Name + " on " + x.Table + namesText(x.Cols)
	case api.SqlDropIndex:
		return "drop index " + x.Name + " on " + x.Table
	case api.SqlAddColumn, api.SqlDropColumn, api.SqlSetNull, api.SqlDropNull:
		return "alter table " + x.Table + alterText(x)
	default:
		return ""
	}
}

// alterText writes what becomes of a table.
func alterText(x api.Stmt) string {
	switch x.Kind {
	case api.SqlAddColumn:
		return " add column " + x.Name + " " + typeText(x.Type) + defaultText(x.Vals)
	case api.SqlDropColumn:
		return " drop column " + x.Name
	case api.SqlSetNull:
		return " alter column " + x.Name + " set not null"
	default:
		return " alter column " + x.Name + " drop not null"
	}
}

// listText writes parts with a text between any two.
func listText[T any](list []T, between string, text func(T) string) string {
	var parts []string
	for _, part := range list {
		parts = append(parts, text(part))
	}
	return strings.Join(parts, between)
}

func namesText(names []string) string {
	return " ( " + strings.Join(names, " , ") + " )"
}

func shownText(names []string) string {
	if len(names) == 0 {
		return "*"
	}
	return strings.Join(names, " , ")
}

// columnsText writes columns and their types, which must be as many.
func columnsText(names []string, types []int) string {
	if len(names) != len(types) {
		return ""
	}
	var parts []string
	for i, name := range names {
		part := name + " " + typeText(types[i])
		if i == 0 {
			part += " primary key"
		}
		parts = append(parts, part)
	}
	return namesText(parts)
}

func uniqueText(unique bool) string {
	if unique {
		return "unique "
	}
	return ""
}

func defaultText(vals []api.Value) string {
	if len(vals) == 0 {
		return ""
	}
	return " default " + valueText(vals[0])
}

func whereText(conds []api.Cond) string {
	if len(conds) == 0 {
		return ""
	}
	return " where " + listText(conds, " and ", condText)
}

func condText(c api.Cond) string {
	switch c.Sign {
	case api.CondEq:
		return c.Col + " = " + valueText(c.V)
	case api.CondLt:
		return c.Col + " < " + valueText(c.V)
	case api.CondGt:
		return c.Col + " > " + valueText(c.V)
	case api.CondNull:
		return c.Col + " is null"
	case api.CondSome:
		return c.Col + " is not null"
	default:
		return ""
	}
}

func setText(x api.Set) string {
	if x.Add {
		return x.Col + " = " + x.Col + " + " + valueText(x.V)
	}
	return x.Col + " = " + valueText(x.V)
}

func typeText(kind int) string {
	switch kind {
	case api.KBool:
		return "bool"
	case api.KInt:
		return "int"
	case api.KFloat:
		return "float"
	case api.KBytes:
		return "bytes"
	case api.KText:
		return "text"
	default:
		return ""
	}
}

func valueText(v api.Value) string {
	if !value.May(v) {
		return ""
	}
	switch v.Kind {
	case api.KBool:
		return strconv.FormatBool(v.N == 1)
	case api.KInt:
		return strconv.FormatInt(v.N, 10)
	case api.KFloat:
		digits := strconv.FormatUint(v.F, 16)
		return "f'" + strings.Repeat("0", floatDigits-len(digits)) + digits + "'"
	case api.KBytes:
		return "x'" + bytesDigits(v.S) + "'"
	case api.KText:
		return "'" + strings.ReplaceAll(v.S, "'", "''") + "'"
	default:
		return "null"
	}
}

// bytesDigits writes bytes in hexadecimal digits, two each.
func bytesDigits(s string) string {
	const digits = "0123456789abcdef"
	b := make([]byte, 0, 2*len(s))
	for i := range len(s) {
		b = append(b, digits[s[i]>>4], digits[s[i]&15])
	}
	return string(b)
}
