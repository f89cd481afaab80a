package pred

import (
	"math"
	"math/rand"
	"slices"
	"strings"
	"testing"

	"falsework/api"
)

func pick[T any](r *rand.Rand, l []T) T { return l[r.Intn(len(l))] }

// drawnValue is a value of a kind, most of them near each other.
func drawnValue(r *rand.Rand, kind int) api.Value {
	switch kind {
	case api.KBool:
		return boolean(int64(r.Intn(2)))
	case api.KInt:
		return integer(pick(r, []int64{0, 1, 1, 2, -1, 255, 256, math.MinInt64, math.MaxInt64}))
	case api.KFloat:
		return float(pick(r, []uint64{0, 1, minus | 1, one64, one64, minus | one64, inf, minus | inf, oneNaN, oneNaN}))
	case api.KBytes:
		return bin(pick(r, []string{"", "\x00", "\x00\x01", "\x00\xff", "a", "a\x00", "\xff", strings.Repeat("\x00", 40)}))
	case api.KText:
		return text(pick(r, []string{"", "a", "aa", "ab", "b", "'", strings.Repeat("a", 40)}))
	}
	return api.Value{}
}

// turned is a value, now and then with one field that it has not.
func turned(r *rand.Rand, v api.Value, seldom int) api.Value {
	if r.Intn(seldom) > 0 {
		return v
	}
	switch r.Intn(6) {
	case 0:
		v.Kind = r.Intn(9) - 1
	case 1:
		v.N = int64(r.Intn(4)) - 1
	case 2:
		v.F = pick(r, []uint64{0, 1, minus, oneNaN + 1, inf + 1, oneNaN | minus, one64})
	case 3:
		v.S += strings.Repeat("a", pick(r, []int{1, 39, 40, 41}))
	case 4:
		return pick(r, wrongs())
	default:
		return drawnValue(r, r.Intn(6))
	}
	return v
}

func drawnCols(r *rand.Rand) []api.Column {
	var cols []api.Column
	for i := range r.Intn(7) {
		c := api.Column{ID: i + 1, Name: pick(r, []string{"a", "a", "b", "c", "d"}), Kind: 1 + r.Intn(5), State: api.Public, Null: r.Intn(5)}
		if r.Intn(4) == 0 {
			c.State = r.Intn(6)
		}
		if r.Intn(30) == 0 {
			c.Kind = r.Intn(9) - 1
		}
		cols = append(cols, c)
	}
	return cols
}

// drawnVals are as many as columns, most of them of their kinds.
func drawnVals(r *rand.Rand, cols []api.Column) []api.Value {
	var vals []api.Value
	for _, c := range cols {
		v := api.Value{}
		if r.Intn(4) > 0 {
			v = drawnValue(r, c.Kind)
		}
		vals = append(vals, turned(r, v, 10))
	}
	switch r.Intn(20) {
	case 0:
		vals = append(vals, api.Value{})
	case 1:
		vals = vals[:r.Intn(len(vals)+1)]
	}
	return vals
}

// drawnConds are most of them such as may be asked, and hold or nearly.
func drawnConds(r *rand.Rand, cols []api.Column, vals []api.Value, seldom int) []api.Cond {
	var conds []api.Cond
	for range r.Intn(5) {
		c := api.Cond{Col: "a", Sign: pick(r, signs())}
		if len(cols) > 0 {
			at := r.Intn(len(cols))
			c.Col = cols[at].Name
			if first, i := publicByWords(cols, c.Col); i >= 0 && r.Intn(4) > 0 {
				c.V = drawnValue(r, first.Kind)
				if i < len(vals) && vals[i].Kind == first.Kind && r.Intn(3) == 0 {
					c.V = vals[i]
				}
			}
		}
		c.V = turned(r, c.V, seldom)
		if r.Intn(seldom) == 0 {
			c.Sign = r.Intn(9) - 1
		}
		if r.Intn(seldom) == 0 {
			c.Col = pick(r, []string{"", "e", "aa", "A"})
		}
		conds = append(conds, c)
	}
	return conds
}

func TestDrawn(t *testing.T) {
	r := rand.New(rand.NewSource(18))
	seen := map[[2]int]int{}
	for range 200000 {
		cols := drawnCols(r)
		vals := drawnVals(r, cols)
		conds := drawnConds(r, cols, vals, pick(r, []int{8, 200}))
		wasCols, wasVals, wasConds := slices.Clone(cols), slices.Clone(vals), slices.Clone(conds)
		if e, want := Check(cols, conds), checkByWords(cols, conds); e != want {
			t.Fatalf("18.1: Check(%+v, %+v): %d, not %d", cols, conds, e, want)
		}
		v, e := Test(cols, vals, conds)
		if want, wantE := testByWords(cols, vals, conds); v != want || e != wantE {
			t.Fatalf("18.2: Test(%+v, %+v, %+v): %d %d, not %d %d", cols, vals, conds, v, e, want, wantE)
		}
		if !slices.Equal(cols, wasCols) || !slices.Equal(vals, wasVals) || !slices.Equal(conds, wasConds) {
			t.Fatalf("R3: %+v %+v %+v", cols, vals, conds)
		}
		seen[[2]int{v, int(e)}]++
	}
	for _, kind := range [][2]int{{1, 0}, {0, 0}, {-1, 0}, {0, int(api.ErrName)}, {0, int(api.ErrArg)}, {0, int(api.ErrType)}} {
		if seen[kind] < 1000 {
			t.Errorf("18.2: answer %d, error %d was drawn only %d times", kind[0], kind[1], seen[kind])
		}
	}
}
