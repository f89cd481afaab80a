package row

import (
	"math"
	"math/rand"
	"slices"
	"strings"
	"testing"

	"falsework/api"
	"falsework/flo"
	"falsework/value"
)

var null = api.Value{}

func boolean(n int64) api.Value   { return api.Value{Kind: api.KBool, N: n} }
func integer(n int64) api.Value   { return api.Value{Kind: api.KInt, N: n} }
func float(x float64) api.Value   { return api.Value{Kind: api.KFloat, F: math.Float64bits(x)} }
func binaryOf(s string) api.Value { return api.Value{Kind: api.KBytes, S: s} }
func text(s string) api.Value     { return api.Value{Kind: api.KText, S: s} }

// cell is a cell with a value, num one with an int.
func cell(col int, v api.Value) api.Cell { return api.Cell{Col: col, V: v} }
func num(col int, n int64) api.Cell      { return cell(col, integer(n)) }

func list(cells ...api.Cell) []api.Cell       { return cells }
func columns(cols ...api.Column) []api.Column { return cols }
func values(vs ...api.Value) []api.Value      { return vs }

// good are values of all kinds that may be.
func good() []api.Value {
	return values(null, boolean(0), boolean(1), integer(math.MinInt64), integer(-1), integer(0), integer(1), integer(math.MaxInt64),
		float(math.Inf(-1)), float(0), float(0.5), float(math.Inf(1)), api.Value{Kind: api.KFloat, F: 0x7ff8000000000000},
		binaryOf(""), binaryOf("\x00"), binaryOf("\x00\xff"), binaryOf("\xff\xff"),
		text(""), text("\x00"), text("\x00\x01"), text("\x01"), text("a"), text("a\x00"), text("ab"), text(strings.Repeat("\xff", api.MaxText)))
}

// wrong are values that may not be.
func wrong() []api.Value {
	return values(api.Value{Kind: -1}, api.Value{Kind: 6}, api.Value{Kind: math.MaxInt}, api.Value{N: 1}, api.Value{S: "a"}, boolean(2), boolean(-1),
		api.Value{Kind: api.KInt, F: 1}, api.Value{Kind: api.KInt, S: "a"}, float(math.Copysign(0, -1)), api.Value{Kind: api.KFloat, F: 0x7ff8000000000001},
		binaryOf(strings.Repeat("a", api.MaxText+1)), text(strings.Repeat("\x00", api.MaxText+1)), api.Value{Kind: api.KText, N: 1})
}

func some(r *rand.Rand) api.Value {
	all := good()
	switch r.Intn(6) {
	case 0:
		return integer(int64(r.Uint64()) >> r.Intn(64))
	case 1:
		return api.Value{Kind: api.KFloat, F: flo.Canon(r.Uint64())}
	case 2:
		return text(someBytes(r, r.Intn(api.MaxText+1)))
	default:
		return all[r.Intn(len(all))]
	}
}

func someBytes(r *rand.Rand, n int) string {
	const common = "\x00\x00\x01\xff\xff\x02ab"
	b := make([]byte, n)
	for i := range b {
		b[i] = common[r.Intn(len(common))]
	}
	return string(b)
}

// someRow is n cells whose Cols rise.
func someRow(r *rand.Rand, n int) []api.Cell {
	var cells []api.Cell
	last := 0
	for range n {
		last += 1 + r.Intn(1<<r.Intn(11))
		cells = append(cells, cell(last, some(r)))
	}
	return cells
}

// someCells is any n cells of few Cols, which need not rise.
func someCells(r *rand.Rand, n int) []api.Cell {
	var cells []api.Cell
	for range n {
		cells = append(cells, cell(r.Intn(6)-1, integer(r.Int63())))
	}
	return cells
}

// written is what Put is to tell of cells that may be, written another way.
func written(t *testing.T, cells []api.Cell) string {
	t.Helper()
	all := ""
	for _, c := range cells {
		s, e := value.Put(c.V)
		if e != api.OK {
			t.Fatalf("2.2: Put(%v): error %d", c.V, e)
		}
		all += string([]byte{byte(c.Col / 256), byte(c.Col % 256)}) + s
	}
	return all
}

func put(t *testing.T, cells []api.Cell) string {
	t.Helper()
	s, e := Put(cells)
	if e != api.OK {
		t.Fatalf("4.1: Put(%v): error %d", cells, e)
	}
	return s
}

func writes(t *testing.T, cells []api.Cell, want string) {
	t.Helper()
	if s, e := Put(cells); s != want || e != api.OK {
		t.Errorf("4.1: Put(%v): %x %d, not %x", cells, s, e, want)
	}
}

func putRefuses(t *testing.T, cells []api.Cell) {
	t.Helper()
	if s, e := Put(cells); s != "" || e != api.ErrArg {
		t.Errorf("4.1: Put(%v): %x %d", cells, s, e)
	}
}

func reads(t *testing.T, s string, want []api.Cell) {
	t.Helper()
	if cells, e := Get(s); e != api.OK || !slices.Equal(cells, want) {
		t.Errorf("4.2: Get(%x): %v %d, not %v", s, cells, e, want)
	}
}

func refuses(t *testing.T, s string) {
	t.Helper()
	if cells, e := Get(s); e != api.ErrForm || cells != nil {
		t.Errorf("4.2: Get(%x): %v %d", s, cells, e)
	}
}

// examples are cells with their bytes.
func examples() []struct {
	cells []api.Cell
	s     string
} {
	return []struct {
		cells []api.Cell
		s     string
	}{
		{nil, ""}, {list(), ""},
		{list(num(1, 1)), "\x00\x01\x04\x80\x00\x00\x00\x00\x00\x00\x01"},
		{list(cell(1, null)), "\x00\x01\x01"}, {list(cell(255, null)), "\x00\xff\x01"}, {list(cell(256, null)), "\x01\x00\x01"},
		{list(cell(257, null)), "\x01\x01\x01"}, {list(cell(65280, null)), "\xff\x00\x01"}, {list(cell(65535, null)), "\xff\xff\x01"},
		{list(cell(1, null), cell(2, boolean(1))), "\x00\x01\x01\x00\x02\x03"},
		{list(cell(255, boolean(0)), cell(256, null)), "\x00\xff\x02\x01\x00\x01"},
		{list(cell(1, text("a")), num(2, -1), cell(65535, text("\x00"))), "\x00\x01\x07a\x00\x01\x00\x02\x04\x7f\xff\xff\xff\xff\xff\xff\xff\xff\xff\x07\x00\xff\x00\x01"},
		{list(cell(3, float(1)), cell(7, binaryOf("\x01"))), "\x00\x03\x05\xbf\xf0\x00\x00\x00\x00\x00\x00\x00\x07\x06\x01\x00\x01"},
		{list(cell(1, text("")), cell(513, binaryOf(""))), "\x00\x01\x07\x00\x01\x02\x01\x06\x00\x01"},
	}
}

// 4.1

func TestPutExamples(t *testing.T) {
	for _, c := range examples() {
		writes(t, c.cells, c.s)
	}
}

func TestPutOfEachCol(t *testing.T) {
	for col := 1; col <= 65535; col++ {
		writes(t, list(cell(col, null)), string([]byte{byte(col / 256), byte(col % 256), 1}))
	}
	for _, col := range []int{0, -1, -255, -256, -65535, -65536, 65536, 65537, 65792, 1 << 17, 1 << 24, 1<<32 + 1, math.MaxInt, math.MinInt, math.MinInt + 1} {
		putRefuses(t, list(cell(col, null)))
		putRefuses(t, list(num(1, 1), cell(col, null)))
		putRefuses(t, list(cell(col, null), num(1, 1)))
		putRefuses(t, list(cell(col, null), num(65535, 1)))
		putRefuses(t, list(num(1, 1), cell(col, null), num(65535, 1)))
	}
}

func TestPutOfColsThatDoNotRise(t *testing.T) {
	cols := []int{1, 2, 3, 255, 256, 257, 512, 65534, 65535}
	for _, a := range cols {
		for _, b := range cols {
			for _, c := range cols {
				cells := list(num(a, 1), num(b, 2), num(c, 3))
				if a < b && b < c {
					writes(t, cells, written(t, cells))
				} else {
					putRefuses(t, cells)
				}
			}
			if a < b {
				writes(t, list(num(a, 1), num(b, 1)), written(t, list(num(a, 1), num(b, 1))))
			} else {
				putRefuses(t, list(num(a, 1), num(b, 1)))
			}
		}
	}
}

func TestPutOfValuesThatMayNotBe(t *testing.T) {
	for _, w := range wrong() {
		for n := 1; n <= 10; n++ {
			for i := range n {
				var cells []api.Cell
				for k := range n {
					cells = append(cells, num(k+1, 1))
				}
				cells[i].V = w
				putRefuses(t, cells)
			}
		}
		// What is wrong twice is refused by the same number.
		putRefuses(t, list(cell(0, w)))
		putRefuses(t, list(cell(2, w), num(1, 1)))
	}
}

func TestPutOfManyCells(t *testing.T) {
	var cells []api.Cell
	var want []byte
	for col := 1; col <= 65535; col++ {
		cells = append(cells, cell(col, boolean(1)))
		want = append(want, byte(col/256), byte(col%256), 3)
	}
	writes(t, cells, string(want))
	if s, e := Put(append(cells, cell(65536, null))); s != "" || e != api.ErrArg {
		t.Errorf("4.1: one cell too many: %d bytes, error %d", len(s), e)
	}
	if got, e := Get(string(want)); e != api.OK || !slices.Equal(got, cells) {
		t.Errorf("4.2: all cells that there can be: %d, error %d", len(got), e)
	}
	if got, e := Get(string(want) + "\x00\x01\x01"); e != api.ErrForm || got != nil {
		t.Errorf("4.2: one cell too many: %d, error %d", len(got), e)
	}
}

func TestPutOfAnyRow(t *testing.T) {
	r := rand.New(rand.NewSource(1))
	for range 5000 {
		cells := someRow(r, r.Intn(20))
		writes(t, cells, written(t, cells))
	}
}

// 4.2

func TestGetExamples(t *testing.T) {
	for _, c := range examples() {
		reads(t, c.s, c.cells)
	}
}

func TestGetReadsWhatPutWrites(t *testing.T) {
	r := rand.New(rand.NewSource(2))
	for n := range 20 {
		for range 200 {
			cells := someRow(r, n)
			reads(t, put(t, cells), cells)
		}
	}
	for _, v := range good() {
		reads(t, put(t, list(cell(7, v))), list(cell(7, v)))
	}
	for col := 1; col <= 65535; col++ {
		reads(t, string([]byte{byte(col / 256), byte(col % 256), 1}), list(cell(col, null)))
	}
}

func TestGetOfBytesThatBreakOff(t *testing.T) {
	for _, s := range []string{"\x00", "\x01", "\xff", "\x00\x01", "\xff\xff", "\x00\x01\x04", "\x00\x01\x04\x80\x00\x00\x00\x00\x00\x00", "\x00\x01\x07", "\x00\x01\x07a", "\x00\x01\x07a\x00",
		"\x00\x01\x01\x00", "\x00\x01\x01\x02", "\x00\x01\x01\x00\x02", "\x00\x01\x01\x00\x02\x06"} {
		refuses(t, s)
	}
	r := rand.New(rand.NewSource(3))
	for range 300 {
		cells := someRow(r, 1+r.Intn(8))
		s := put(t, cells)
		whole := map[int]int{}
		for n := range len(cells) + 1 {
			whole[len(written(t, cells[:n]))] = n
		}
		for k := range len(s) + 1 {
			if n, ok := whole[k]; ok {
				reads(t, s[:k], cells[:n])
			} else {
				refuses(t, s[:k])
			}
		}
	}
}

func TestGetOfColsThatDoNotRise(t *testing.T) {
	cols := []int{0, 1, 2, 255, 256, 257, 512, 65534, 65535}
	for _, a := range cols {
		for _, b := range cols {
			for _, v := range good() {
				cells := list(cell(a, v), num(b, 2))
				if 0 < a && a < b {
					reads(t, written(t, cells), cells)
				} else {
					refuses(t, written(t, cells))
				}
				cells = slices.Insert(cells, 0, cell(1, null))
				if 1 < a && a < b {
					reads(t, written(t, cells), cells)
				} else {
					refuses(t, written(t, cells))
				}
			}
		}
	}
}

func TestGetOfSomethingBehind(t *testing.T) {
	for _, no := range []string{"\x00", "\x08", "\xff", "x", "xx", "xyz", "\xff\xff\x00", "\xff\xff\x08", "\xff\xff\xff", "\xff\xff\x04\x80", "\xff\xff\x05\x80\x00\x00\x00\x00\x00\x00",
		"\xff\xff\x05\x7f\xff\xff\xff\xff\xff\xff\xff", "\xff\xff\x07\x00\x02", "\xff\xff\x07\x00\xff", "\xff\xff\x07" + strings.Repeat("a", api.MaxText+1) + "\x00\x01", "\x00\x00\x01", "\x00\x00"} {
		refuses(t, no)
		for _, v := range good() {
			s := put(t, list(cell(1, v)))
			refuses(t, s+no)
			refuses(t, put(t, list(cell(1, v), cell(2, v)))+no)
		}
	}
	for _, v := range good() {
		s := put(t, list(cell(1, v)))
		refuses(t, s+s)
		refuses(t, "\x00"+s)
	}
}

func TestGetOfMuch(t *testing.T) {
	for _, s := range []string{"\x00", "\x01", "\xff", "\x00\x01\x01", "\x07"} {
		if cells, e := Get(strings.Repeat(s, 1<<20)); e != api.ErrForm || cells != nil {
			t.Errorf("4.2: much of %x: %d cells, error %d", s, len(cells), e)
		}
	}
}

// fewBytes are the bytes of which short texts are made here.
const fewBytes = "\x00\x01\x02\x03\x06\x07\xff"

// allTexts are all texts of few bytes, as long as most at the most.
func allTexts(most int) []string {
	all := []string{""}
	for from := 0; most > 0; most-- {
		to := len(all)
		for _, s := range all[from:to] {
			for i := range len(fewBytes) {
				all = append(all, s+fewBytes[i:i+1])
			}
		}
		from = to
	}
	return all
}

// shortRows are all rows with as many bytes at the most, made of few, by their bytes.
func shortRows(t *testing.T, most int) map[string][]api.Cell {
	var ones []api.Cell
	vs := values(null, boolean(0), boolean(1))
	for _, s := range allTexts(most - 5) {
		vs = append(vs, binaryOf(s), text(s))
	}
	for _, hi := range []byte(fewBytes) {
		for _, lo := range []byte(fewBytes) {
			for _, v := range vs {
				ones = append(ones, cell(int(hi)*256+int(lo), v))
			}
		}
	}
	all := map[string][]api.Cell{"": nil}
	last := []string{""}
	for range most {
		var next []string
		for _, s := range last {
			if len(s)+3 > most {
				continue // No cell has fewer bytes.
			}
			for _, c := range ones {
				longer := s + written(t, list(c))
				rises := c.Col > 0 && (s == "" || c.Col > all[s][len(all[s])-1].Col)
				if rises && len(longer) <= most {
					all[longer] = append(slices.Clone(all[s]), c)
					next = append(next, longer)
				}
			}
		}
		last = next
	}
	return all
}

func TestGetOfAllShortBytes(t *testing.T) {
	const most = 6
	all := shortRows(t, most)
	for _, s := range allTexts(most) {
		if cells, ok := all[s]; ok {
			reads(t, s, cells)
		} else {
			refuses(t, s)
		}
	}
}

func TestGetOfAnyBytes(t *testing.T) {
	r := rand.New(rand.NewSource(4))
	for range 20000 {
		b := []byte(put(t, someRow(r, 1+r.Intn(4))))
		b[r.Intn(len(b))] = []byte{0x00, 0x01, 0xff, byte(r.Intn(256))}[r.Intn(4)]
		s := string(b)
		cells, e := Get(s)
		switch {
		case e == api.OK && put(t, cells) != s:
			t.Errorf("4.2: Get(%x): %v, whose bytes are %x", s, cells, put(t, cells))
		case e != api.OK:
			refuses(t, s)
		}
	}
}

// 4.3

func holdFill(t *testing.T, cells []api.Cell, cols []api.Column, want []api.Value) {
	t.Helper()
	if got := Fill(cells, cols); !slices.Equal(got, want) {
		t.Errorf("4.3: Fill(%v, %v): %v, not %v", cells, cols, got, want)
	}
}

func holdWith(t *testing.T, cells []api.Cell, col int, v api.Value, want []api.Cell) {
	t.Helper()
	if got := With(cells, col, v); !slices.Equal(got, want) {
		t.Errorf("4.3: With(%v, %d, %v): %v, not %v", cells, col, v, got, want)
	}
}

func holdWithout(t *testing.T, cells []api.Cell, col int, want []api.Cell) {
	t.Helper()
	if got := Without(cells, col); !slices.Equal(got, want) {
		t.Errorf("4.3: Without(%v, %d): %v, not %v", cells, col, got, want)
	}
}

// column is a column with a default; the rest of it does not count.
func column(id int, v api.Value) api.Column {
	return api.Column{ID: id, Name: "c", Kind: api.KText, State: api.WriteOnly, Null: api.Public, Default: v}
}

func TestFillExamples(t *testing.T) {
	row := list(num(1, 10), num(3, 30), num(5, 50))
	for _, c := range []struct {
		cells []api.Cell
		cols  []api.Column
		want  []api.Value
	}{
		{nil, nil, nil}, {row, nil, nil}, {list(), columns(), nil},
		{nil, columns(column(1, integer(7)), column(2, null)), values(integer(7), null)},
		{row, columns(column(1, integer(7))), values(integer(10))},
		{row, columns(column(2, integer(7))), values(integer(7))},
		{row, columns(column(1, null), column(3, null), column(5, null)), values(integer(10), integer(30), integer(50))},
		// In the order of the columns, not of the cells or of the IDs.
		{row, columns(column(5, null), column(4, text("a")), column(1, null), column(0, float(1))), values(integer(50), text("a"), integer(10), float(1))},
		// A column that is there twice, with a cell or without one.
		{row, columns(column(3, integer(1)), column(3, integer(2))), values(integer(30), integer(30))},
		{row, columns(column(4, integer(1)), column(4, integer(2))), values(integer(1), integer(2))},
		// Cells that are there twice, in whatever order.
		{list(num(2, 1), num(2, 2), num(1, 3), num(2, 4), num(1, 5)), columns(column(1, null), column(2, null)), values(integer(3), integer(1))},
		// A cell that is null is a cell.
		{list(cell(1, null)), columns(column(1, integer(7))), values(null)},
		// IDs and Cols that no row has, values that may not be.
		{list(num(0, 1), num(-1, 2), num(65536, 3), num(math.MaxInt, 4), num(math.MinInt, 5)), columns(column(math.MinInt, null), column(-1, null), column(0, null), column(65536, null), column(math.MaxInt, null)),
			values(integer(5), integer(2), integer(1), integer(3), integer(4))},
		{list(cell(1, wrong()[0])), columns(column(1, null), column(2, wrong()[1])), values(wrong()[0], wrong()[1])},
		{list(num(1, 1)), columns(column(1+1<<16, null), column(1+1<<32, null)), values(null, null)},
	} {
		holdFill(t, c.cells, c.cols, c.want)
	}
}

func TestFillOfMuch(t *testing.T) {
	const n = 1 << 17
	var cells []api.Cell
	var cols []api.Column
	var want []api.Value
	for i := range n {
		cells = append(cells, num(2*i, int64(i)))
		cols = append(cols, column(n-i, text("d")))
		want = append(want, text("d"))
		if (n-i)%2 == 0 {
			want[i] = integer(int64(n-i) / 2)
		}
	}
	if !slices.Equal(Fill(cells, cols), want) {
		t.Error("4.3: Fill of many columns from many cells")
	}
}

func TestWithExamples(t *testing.T) {
	row := list(num(2, 20), num(4, 40), num(6, 60))
	n := integer(0)
	for _, c := range []struct {
		cells []api.Cell
		col   int
		want  []api.Cell
	}{
		{nil, 2, list(num(2, 0))}, {list(), 2, list(num(2, 0))}, {list(num(2, 9)), 2, list(num(2, 0))}, {list(num(2, 9), num(2, 8)), 2, list(num(2, 0))},
		// A column that is not there: at the beginning, in the middle, at the end.
		{row, 1, list(num(1, 0), num(2, 20), num(4, 40), num(6, 60))}, {row, 3, list(num(2, 20), num(3, 0), num(4, 40), num(6, 60))},
		{row, 5, list(num(2, 20), num(4, 40), num(5, 0), num(6, 60))}, {row, 7, list(num(2, 20), num(4, 40), num(6, 60), num(7, 0))},
		// One that is there.
		{row, 2, list(num(2, 0), num(4, 40), num(6, 60))}, {row, 4, list(num(2, 20), num(4, 0), num(6, 60))}, {row, 6, list(num(2, 20), num(4, 40), num(6, 0))},
		// One that is there more than once, one behind the other or not.
		{list(num(1, 1), num(3, 2), num(3, 3), num(5, 4)), 3, list(num(1, 1), num(3, 0), num(5, 4))},
		{list(num(1, 1), num(3, 2), num(3, 3), num(5, 4)), 4, list(num(1, 1), num(3, 2), num(3, 3), num(4, 0), num(5, 4))},
		{list(num(3, 1), num(5, 2), num(3, 3), num(1, 4), num(3, 5)), 3, list(num(3, 0), num(5, 2), num(1, 4))},
		// Over cells that do not rise: ahead of the first that is greater, not behind the last that is less.
		{list(num(9, 1), num(2, 2)), 5, list(num(5, 0), num(9, 1), num(2, 2))}, {list(num(2, 1), num(9, 2), num(1, 3), num(8, 4)), 5, list(num(2, 1), num(5, 0), num(9, 2), num(1, 3), num(8, 4))},
		{list(num(4, 1), num(3, 2), num(2, 3)), 5, list(num(4, 1), num(3, 2), num(2, 3), num(5, 0))}, {list(num(5, 1), num(9, 2), num(1, 3), num(5, 4)), 5, list(num(5, 0), num(9, 2), num(1, 3))},
		{list(num(1, 1), num(5, 2), num(2, 3)), 5, list(num(1, 1), num(2, 3), num(5, 0))}, {list(num(9, 1), num(5, 2), num(2, 3)), 5, list(num(5, 0), num(9, 1), num(2, 3))},
		// Cols that no row has.
		{row, 0, list(num(0, 0), num(2, 20), num(4, 40), num(6, 60))}, {row, -1, list(num(-1, 0), num(2, 20), num(4, 40), num(6, 60))}, {row, 65536, append(slices.Clone(row), num(65536, 0))},
		{row, math.MinInt, slices.Insert(slices.Clone(row), 0, num(math.MinInt, 0))}, {row, math.MaxInt, append(slices.Clone(row), num(math.MaxInt, 0))},
		{list(num(math.MinInt, 1), num(math.MaxInt, 2)), 0, list(num(math.MinInt, 1), num(0, 0), num(math.MaxInt, 2))},
	} {
		holdWith(t, c.cells, c.col, n, c.want)
	}
	for _, v := range append(good(), wrong()...) {
		holdWith(t, list(num(1, 1), num(3, 3)), 2, v, list(num(1, 1), cell(2, v), num(3, 3)))
		holdWith(t, list(cell(1, v), cell(2, v)), 2, v, list(cell(1, v), cell(2, v)))
	}
}

func TestWithoutExamples(t *testing.T) {
	row := list(num(2, 20), num(4, 40), num(6, 60))
	for _, c := range []struct {
		cells []api.Cell
		col   int
		want  []api.Cell
	}{
		{nil, 2, nil}, {list(), 2, nil}, {list(num(2, 1)), 2, nil}, {list(num(2, 1), num(2, 2), num(2, 3)), 2, nil}, {list(num(2, 1)), 1, list(num(2, 1))},
		{row, 2, row[1:]}, {row, 4, list(num(2, 20), num(6, 60))}, {row, 6, row[:2]},
		{row, 0, row}, {row, 1, row}, {row, 3, row}, {row, 5, row}, {row, 7, row}, {row, -2, row}, {row, math.MaxInt, row}, {row, math.MinInt, row}, {row, 2 + 1<<16, row},
		{list(num(3, 1), num(5, 2), num(3, 3), num(1, 4), num(3, 5)), 3, list(num(5, 2), num(1, 4))},
		{list(num(9, 1), num(5, 2), num(2, 3)), 5, list(num(9, 1), num(2, 3))}, {list(num(9, 1), num(9, 1), num(2, 3)), 2, list(num(9, 1), num(9, 1))},
		{list(num(0, 1), num(-1, 2), num(65536, 3)), -1, list(num(0, 1), num(65536, 3))},
	} {
		holdWithout(t, c.cells, c.col, c.want)
	}
}

// removed and added are what Without and With are to tell, one cell at a time.
func removed(cells []api.Cell, col int) []api.Cell {
	if len(cells) == 0 {
		return nil
	}
	rest := removed(cells[1:], col)
	if cells[0].Col == col {
		return rest
	}
	return append(list(cells[0]), rest...)
}

func added(cells []api.Cell, c api.Cell) []api.Cell {
	if len(cells) == 0 || cells[0].Col > c.Col {
		return append(list(c), cells...)
	}
	return append(list(cells[0]), added(cells[1:], c)...)
}

// allCells are all lists of cells of few Cols, as long as most at the most; each cell has a value of its own.
func allCells(most int) [][]api.Cell {
	all := [][]api.Cell{nil}
	for from := 0; most > 0; most-- {
		to := len(all)
		for _, cells := range all[from:to] {
			for col := range 5 {
				all = append(all, append(slices.Clone(cells), num(col, int64(len(all)))))
			}
		}
		from = to
	}
	return all
}

func TestCallsOverAllShortCells(t *testing.T) {
	v := text("new")
	for _, cells := range allCells(4) {
		for col := -1; col <= 5; col++ {
			rest := removed(cells, col)
			holdWithout(t, cells, col, rest)
			holdWith(t, cells, col, v, added(rest, cell(col, v)))
			want := text("default")
			for _, c := range slices.Backward(cells) {
				if c.Col == col {
					want = c.V
				}
			}
			holdFill(t, cells, columns(column(col, text("default"))), values(want))
		}
	}
}

// 4.4

// holdFollows holds what follows from With and Without against what they tell.
func holdFollows(t *testing.T, cells []api.Cell, col int, v api.Value, cols []api.Column) {
	t.Helper()
	with := With(cells, col, v)
	was, now := Fill(cells, cols), Fill(with, cols)
	if len(was) != len(cols) || len(now) != len(cols) {
		t.Fatalf("4.3: %d and %d values of %d columns", len(was), len(now), len(cols))
	}
	for i, c := range cols {
		want := was[i]
		if c.ID == col {
			want = v
		}
		if now[i] != want {
			t.Errorf("4.4: Fill behind With(%v, %d, %v): at %d %v, not %v", cells, col, v, c.ID, now[i], want)
		}
	}
	if got, want := Without(with, col), Without(cells, col); !slices.Equal(got, want) {
		t.Errorf("4.4: With(%v, %d, %v), and Without then: %v, not %v", cells, col, v, got, want)
	}
}

func TestWhatFollowsOverAllShortCells(t *testing.T) {
	var cols []api.Column
	for id := -1; id <= 5; id++ {
		cols = append(cols, column(id, integer(int64(-id))))
	}
	for _, cells := range allCells(4) {
		for col := -1; col <= 5; col++ {
			holdFollows(t, cells, col, text("new"), cols)
		}
	}
}

func TestWhatFollowsOverAnyCells(t *testing.T) {
	r := rand.New(rand.NewSource(5))
	for range 3000 {
		var cols []api.Column
		for range r.Intn(12) {
			cols = append(cols, column(r.Intn(8)-2, some(r)))
		}
		holdFollows(t, someCells(r, r.Intn(12)), r.Intn(8)-2, some(r), cols)
	}
}

func TestARowWithAnotherCellIsARow(t *testing.T) {
	r := rand.New(rand.NewSource(6))
	for range 3000 {
		cells := someRow(r, r.Intn(12))
		col := 1 + r.Intn(65535)
		if len(cells) > 0 && r.Intn(2) == 0 {
			col = cells[r.Intn(len(cells))].Col
		}
		with, without := With(cells, col, some(r)), Without(cells, col)
		reads(t, put(t, with), with)
		reads(t, put(t, without), without)
	}
}

// The rules of all calls

// spare is cells with room behind them in which something stands that is not theirs.
func spare(cells []api.Cell) []api.Cell {
	all := append(slices.Clone(cells), num(1, 901), num(2, 902), num(3, 903), num(4, 904))
	return all[:len(cells)]
}

func TestWhatIsHandedInIsNotChanged(t *testing.T) {
	for _, cells := range append(allCells(3), list(cell(1, wrong()[0]), num(2, 1))) {
		for col := range 6 {
			given := spare(cells)
			was := slices.Clone(given[:len(cells)+4])
			cols := columns(column(1, text("a")), column(9, text("b")), column(2, null))
			colsWere := slices.Clone(cols)
			Put(given)
			Fill(given, cols[:2])
			With(given, col, text("new"))
			Without(given, col)
			if !slices.Equal(given[:len(cells)+4], was) {
				t.Fatalf("R3: %v, not %v", given[:len(cells)+4], was)
			}
			if !slices.Equal(cols, colsWere) {
				t.Fatalf("R3: %v, not %v", cols, colsWere)
			}
		}
	}
}

// turn writes over all that a list has, its spare room too.
func turn[T any](l []T, by T) {
	for i := range l[:cap(l)] {
		l[:cap(l)][i] = by
	}
}

func TestWhatIsToldIsNewMemory(t *testing.T) {
	turned := num(99, 99)
	for _, cells := range allCells(3) {
		for col := range 6 {
			given := spare(cells)
			was := slices.Clone(given[:len(cells)+4])
			with, without := With(given, col, text("new")), Without(given, col)
			again, rest := With(given, col, text("new")), Without(given, col)
			turn(with, turned)
			turn(without, turned)
			if !slices.Equal(given[:len(cells)+4], was) {
				t.Fatalf("R3: what was told writes into what was handed in: %v", given[:len(cells)+4])
			}
			holdWithout(t, given, col, rest)
			holdWith(t, given, col, text("new"), again)
			if len(given) > 0 {
				turn(given, turned)
				if slices.Contains(again, turned) || slices.Contains(rest, turned) {
					t.Fatalf("R3: what was handed in writes into what was told: %v %v", again, rest)
				}
			}
		}
	}
	want := list(num(1, 1), cell(2, text("a")), cell(3, null))
	s := put(t, want)
	first, _ := Get(s)
	second, _ := Get(s)
	turn(first, turned)
	reads(t, s, want)
	if !slices.Equal(second, want) {
		t.Errorf("R3: %v", second)
	}
	cols := columns(column(1, null), column(4, text("d")))
	vs := Fill(want, cols)
	turn(vs, text("turned"))
	holdFill(t, want, cols, values(integer(1), text("d")))
}

func TestTheSameCallsTellTheSame(t *testing.T) {
	r := rand.New(rand.NewSource(7))
	for range 500 {
		cells, col, v := someCells(r, r.Intn(6)), r.Intn(6), some(r)
		s, e := Put(cells)
		if s2, e2 := Put(cells); s2 != s || e2 != e {
			t.Errorf("R5: Put(%v): %x %d, and %x %d", cells, s, e, s2, e2)
		}
		holdWith(t, cells, col, v, With(cells, col, v))
		holdWithout(t, cells, col, Without(cells, col))
	}
	for range 2 {
		reads(t, "\x00\x01\x01\x00\x02\x07a\x00\x01", list(cell(1, null), cell(2, text("a"))))
		refuses(t, "\x00\x01\x01\x00")
	}
}
