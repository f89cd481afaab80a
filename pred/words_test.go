package pred

import (
	"math"
	"slices"
	"strings"

	"falsework/api"
)

// A plain reckoning by the words of chapter 18, against which the program is held. It has values in their order by its own means, and not by layer 2's.

// mayByWords is layer 2's May: each kind, with what it does not have taken away.
func mayByWords(v api.Value) bool {
	bare := v
	switch v.Kind {
	case api.KNull:
		return v == api.Value{}
	case api.KBool:
		return v == api.Value{Kind: api.KBool} || v == api.Value{Kind: api.KBool, N: 1}
	case api.KInt:
		bare.N = 0
		return bare == api.Value{Kind: api.KInt}
	case api.KFloat:
		bare.F = 0
		x := math.Float64frombits(v.F)
		return bare == api.Value{Kind: api.KFloat} && v.F != 1<<63 && (x == x || v.F == oneNaN)
	case api.KBytes, api.KText:
		bare.S = ""
		return bare == api.Value{Kind: v.Kind} && len(v.S) <= 40
	}
	return false
}

// cmpByWords is layer 2's Cmp: kinds in their order, and within a kind its own.
func cmpByWords(a, b api.Value) int {
	if !mayByWords(a) || !mayByWords(b) {
		return 0
	}
	switch {
	case a.Kind != b.Kind:
		return lies(a.Kind < b.Kind, a.Kind > b.Kind)
	case a.Kind == api.KFloat:
		return cmpFloats(math.Float64frombits(a.F), math.Float64frombits(b.F))
	case a.Kind == api.KBytes || a.Kind == api.KText:
		return strings.Compare(a.S, b.S)
	}
	return lies(a.N < b.N, a.N > b.N)
}

func lies(below, above bool) int {
	switch {
	case below:
		return -1
	case above:
		return 1
	}
	return 0
}

// cmpFloats is 18.3: a NaN is the same as a NaN and above every other float.
func cmpFloats(x, y float64) int {
	nanX, nanY := x != x, y != y
	switch {
	case nanX || nanY:
		return lies(nanY && !nanX, nanX && !nanY)
	}
	return lies(x < y, x > y)
}

// publicByWords is the column that a name means, and its place.
func publicByWords(cols []api.Column, name string) (api.Column, int) {
	at := slices.IndexFunc(cols, func(c api.Column) bool { return c.State == api.Public && c.Name == name })
	if at < 0 {
		return api.Column{}, at
	}
	return cols[at], at
}

// checkByWords is 18.1.
func checkByWords(cols []api.Column, conds []api.Cond) api.Errno {
	for _, c := range conds {
		col, at := publicByWords(cols, c.Col)
		wrongs := []struct {
			is bool
			e  api.Errno
		}{
			{at < 0, api.ErrName},
			{!slices.Contains([]int{api.CondEq, api.CondLt, api.CondGt, api.CondNull, api.CondSome}, c.Sign), api.ErrArg},
			{!mayByWords(c.V), api.ErrArg},
			{c.V.Kind != api.KNull && c.V.Kind != col.Kind, api.ErrType},
		}
		for _, w := range wrongs {
			if w.is {
				return w.e
			}
		}
	}
	return api.OK
}

// answerByWords is 18.2 of one condition.
func answerByWords(c api.Cond, v api.Value) int {
	isNull := v.Kind == api.KNull
	switch {
	case c.Sign == api.CondNull:
		return lies(false, isNull)
	case c.Sign == api.CondSome:
		return lies(false, !isNull)
	case isNull || c.V.Kind == api.KNull:
		return -1
	}
	want := []int{api.CondEq: 0, api.CondLt: -1, api.CondGt: 1}[c.Sign]
	return lies(false, cmpByWords(v, c.V) == want)
}

// allByWords is 18.2 of several answers.
func allByWords(answers []int) int {
	for _, ahead := range []int{0, -1} {
		if slices.Contains(answers, ahead) {
			return ahead
		}
	}
	return 1
}

// testByWords is 18.2.
func testByWords(cols []api.Column, vals []api.Value, conds []api.Cond) (int, api.Errno) {
	if e := checkByWords(cols, conds); e != api.OK {
		return 0, e
	}
	if len(vals) != len(cols) {
		return 0, api.ErrArg
	}
	var answers []int
	for _, c := range conds {
		_, at := publicByWords(cols, c.Col)
		answers = append(answers, answerByWords(c, vals[at]))
	}
	return allByWords(answers), api.OK
}
