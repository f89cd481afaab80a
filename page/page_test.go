package page

import (
	"fmt"
	"math/rand"
	"slices"
	"sort"
	"strings"
	"testing"

	"falsework/api"
)

// of makes pages of a text: pages apart by |, each byte of one a Key, with that byte and "!" as its Val.
func of(text string) [][]api.Pair {
	if text == "" {
		return nil
	}
	var ps [][]api.Pair
	for _, part := range strings.Split(text, "|") {
		var p []api.Pair
		for i := range len(part) {
			p = append(p, api.Pair{Key: part[i : i+1], Val: part[i:i+1] + "!"})
		}
		ps = append(ps, p)
	}
	return ps
}

// pagesOf makes pages of lists of Keys, with Vals that tell their Keys.
func pagesOf(lists ...[]string) [][]api.Pair {
	var ps [][]api.Pair
	for _, list := range lists {
		p := []api.Pair{}
		for _, k := range list {
			p = append(p, api.Pair{Key: k, Val: "at " + k})
		}
		ps = append(ps, p)
	}
	return ps
}

// keysOf tells the Keys of pages as a text that of would take.
func keysOf(ps [][]api.Pair) string {
	var parts []string
	for _, p := range ps {
		s := ""
		for _, x := range p {
			s += x.Key
		}
		parts = append(parts, s)
	}
	return strings.Join(parts, "|")
}

// flat is all pairs of pages in one list.
func flat(ps [][]api.Pair) []api.Pair {
	var xs []api.Pair
	for _, p := range ps {
		xs = append(xs, p...)
	}
	return xs
}

// deep copies pages, with their lengths as their room.
func deep(ps [][]api.Pair) [][]api.Pair {
	qs := make([][]api.Pair, 0, len(ps))
	for _, p := range ps {
		q := make([]api.Pair, len(p))
		copy(q, p)
		qs = append(qs, q)
	}
	return qs
}

// same tells whether pages are the same, pair by pair.
func same(ps, qs [][]api.Pair) bool {
	return slices.EqualFunc(ps, qs, func(p, q []api.Pair) bool { return slices.Equal(p, q) })
}

// rightByWords is 7.1 by its words, in another way than the program: byte by byte, over all pairs in one list.
func rightByWords(ps [][]api.Pair) bool {
	for _, p := range ps {
		if len(p) == 0 || len(p) > 8 {
			return false
		}
	}
	xs := flat(ps)
	for i := 1; i < len(xs); i++ {
		if !belowByBytes(xs[i-1].Key, xs[i].Key) {
			return false
		}
	}
	return true
}

// belowByBytes tells whether a is below b: the first byte that differs, else the length.
func belowByBytes(a, b string) bool {
	for i := range min(len(a), len(b)) {
		if a[i] != b[i] {
			return int(a[i]) < int(b[i])
		}
	}
	return len(a) < len(b)
}

// homeByWords is the page of a key by its words: the last one whose first Key is not above it, else the first one.
func homeByWords(ps [][]api.Pair, k string) int {
	home := 0
	for i, p := range ps {
		if !belowByBytes(k, p[0].Key) {
			home = i
		}
	}
	return home
}

// putByWords is 7.2 by its words.
func putByWords(ps [][]api.Pair, k, v string) [][]api.Pair {
	qs := deep(ps)
	for _, q := range qs {
		for j := range q {
			if q[j].Key == k {
				q[j].Val = v
				return qs
			}
		}
	}
	if len(qs) == 0 {
		return [][]api.Pair{{{Key: k, Val: v}}}
	}
	home := homeByWords(qs, k)
	q := append(qs[home], api.Pair{Key: k, Val: v})
	sort.Slice(q, func(a, b int) bool { return belowByBytes(q[a].Key, q[b].Key) })
	var out [][]api.Pair
	out = append(out, qs[:home]...)
	if len(q) == 9 {
		out = append(out, q[:4], q[4:])
	} else {
		out = append(out, q)
	}
	return append(out, qs[home+1:]...)
}

// delByWords is 7.3 by its words.
func delByWords(ps [][]api.Pair, k string) [][]api.Pair {
	at := -1
	var qs [][]api.Pair
	for i, p := range ps {
		var q []api.Pair
		for _, x := range p {
			if x.Key == k {
				at = i
			} else {
				q = append(q, x)
			}
		}
		qs = append(qs, q)
	}
	if at < 0 {
		return qs
	}
	var out [][]api.Pair
	switch {
	case len(qs[at]) == 0:
		out = append(out, qs[:at]...)
		return append(out, qs[at+1:]...)
	case at+1 < len(qs):
		if len(qs[at])+len(qs[at+1]) > 4 {
			return qs
		}
		out = append(out, qs[:at]...)
		out = append(out, append(slices.Clone(qs[at]), qs[at+1]...))
		return append(out, qs[at+2:]...)
	case at > 0:
		if len(qs[at-1])+len(qs[at]) > 4 {
			return qs
		}
		out = append(out, qs[:at-1]...)
		return append(out, append(slices.Clone(qs[at-1]), qs[at]...))
	default:
		return qs
	}
}

// scanByWords is Scan of 7.4 by its words.
func scanByWords(ps [][]api.Pair, lo, hi string, n int) []api.Pair {
	var xs []api.Pair
	for _, x := range flat(ps) {
		if belowByBytes(x.Key, lo) {
			continue
		}
		if hi == "" || belowByBytes(x.Key, hi) {
			xs = append(xs, x)
		}
	}
	if n < 0 {
		return nil
	}
	return xs[:min(n, len(xs))]
}

// getByWords is Get of 7.4 by its words.
func getByWords(ps [][]api.Pair, k string) (string, bool) {
	for _, x := range flat(ps) {
		if x.Key == k {
			return x.Val, true
		}
	}
	return "", false
}

// shapes goes through all pages of up to three with the lengths that are named, with every second two-digit number as a Key, so that there is one between any two.
func shapes(lengths []int, yield func(ps [][]api.Pair)) {
	tell := func(sizes ...int) {
		var ps [][]api.Pair
		next := 1
		for _, size := range sizes {
			var p []api.Pair
			for range size {
				k := fmt.Sprintf("%02d", next)
				p = append(p, api.Pair{Key: k, Val: "v" + k})
				next += 2
			}
			ps = append(ps, p)
		}
		yield(ps)
	}
	tell()
	for _, a := range lengths {
		tell(a)
		for _, b := range lengths {
			tell(a, b)
			for _, c := range lengths {
				tell(a, b, c)
			}
		}
	}
}

// 7.1

func TestRightPages(t *testing.T) {
	for _, c := range []struct {
		name string
		ps   [][]api.Pair
	}{
		{"nil", nil},
		{"no pages", [][]api.Pair{}},
		{"one pair", of("a")},
		{"two pairs", of("ab")},
		{"as many pairs as there is room", of("abcdefgh")},
		{"pages of one pair", of("a|b|c|d")},
		{"full pages", of("abcdefgh|ijklmnop|qrstuvwx")},
		{"pages of all lengths", of("A|BC|DEF|GHIJ|KLMNO|PQRSTU|abcdefg|hijklmno")},
		{"an empty Key alone", pagesOf([]string{""})},
		{"an empty Key first", pagesOf([]string{"", "\x00", "\x00\x00"}, []string{"\x01"})},
		{"an empty Key alone in the first page", pagesOf([]string{""}, []string{"\x00"})},
		{"Keys that begin one another", pagesOf([]string{"a", "aa", "aaa"}, []string{"aaaa", "ab"})},
		{"a long Key ahead of a short one", pagesOf([]string{"azzzz", "b"}, []string{"bzzz"}, []string{"c"})},
		{"bytes from 80 on", pagesOf([]string{"\x7f", "\x80", "\x81"}, []string{"\xfe"}, []string{"\xff", "\xff\x00", "\xff\xff"})},
		{"bytes from 80 on behind others", pagesOf([]string{"a\x7f", "a\x80"}, []string{"a\xff", "b"})},
		{"bytes that are no runes beside such as are", pagesOf([]string{"\u00e9", "\u20ac"}, []string{"\U0001f600", "\xf8"})},
		{"Vals that fall or are the same", [][]api.Pair{{{Key: "a", Val: "z"}, {Key: "b", Val: "a"}, {Key: "c", Val: "a"}}}},
	} {
		if !Right(c.ps) {
			t.Errorf("7.1: %s: not right", c.name)
		}
	}
}

// wrong is pages of which none are right, by what is wrong.
func wrong() map[string][][]api.Pair {
	return map[string][][]api.Pair{
		"a page without pairs alone":           {{}},
		"a nil page alone":                     {nil},
		"a page without pairs first":           {{}, {{Key: "a"}}},
		"a page without pairs between":         {{{Key: "a"}}, {}, {{Key: "b"}}},
		"a page without pairs last":            {{{Key: "a"}}, {{Key: "b"}}, {}},
		"a nil page last":                      {{{Key: "a"}}, {{Key: "b"}}, nil},
		"one pair too many":                    of("abcdefghi"),
		"one pair too many in the first page":  of("abcdefghi|j"),
		"one pair too many in a middle page":   of("a|bcdefghij|k"),
		"one pair too many in the last page":   of("a|b|cdefghijk"),
		"many pairs too many":                  of("abcdefghijklmnopqrstuvwxyz"),
		"Keys that fall in a page":             of("ba"),
		"Keys that fall in the last page":      of("a|b|dc"),
		"Keys that fall at a page's end":       of("abcdefhg|i"),
		"Keys that fall from page to page":     of("b|a"),
		"Keys that fall from a page's last":    of("ac|bd"),
		"a Key that is below the page ahead":   of("bc|ad"),
		"Keys that fall to the last page":      of("ab|cd|b"),
		"the same Key twice in a page":         of("aa"),
		"the same Key twice at a page's end":   of("abcc|d"),
		"the same Key from page to page":       of("a|a"),
		"the same Key behind a page of two":    of("ab|bc"),
		"the same Key in the last page":        of("a|b|b"),
		"the empty Key twice in a page":        pagesOf([]string{"", ""}),
		"the empty Key twice in two pages":     pagesOf([]string{""}, []string{""}),
		"the empty Key behind another":         pagesOf([]string{"a", ""}),
		"the empty Key in the page behind":     pagesOf([]string{"a"}, []string{""}),
		"a Key behind one that it begins":      pagesOf([]string{"ab", "a"}),
		"a Key a page behind one it begins":    pagesOf([]string{"ab"}, []string{"a"}),
		"80 ahead of 7f":                       pagesOf([]string{"\x80", "\x7f"}),
		"ff ahead of 00":                       pagesOf([]string{"a\xff"}, []string{"a\x00"}),
		"ff ahead of fe":                       pagesOf([]string{"\xff", "\xfe"}),
		"ff ahead of 80, a page behind":        pagesOf([]string{"a\xff"}, []string{"a\x80"}),
		"the same no runes":                    pagesOf([]string{"\xff", "\xff"}),
		"an emoji ahead of what is no rune":    pagesOf([]string{"\xf8", "\U0001f600"}),
		"a first Key of the page ahead's":      pagesOf([]string{"b", "d"}, []string{"c", "e"}),
		"all right but the last pair of three": of("abcd|efgh|ijka"),
	}
}

func TestPagesThatAreNotRight(t *testing.T) {
	keys := []string{"", "a", "b", "c", "j", "z", "\x80", "\xff"}
	for name, ps := range wrong() {
		if Right(ps) {
			t.Errorf("7.1: %s: right", name)
		}
		for _, k := range keys {
			if got := Put(ps, k, "v"); len(got) != 0 {
				t.Errorf("7.1: %s: Put of %q tells %v", name, k, got)
			}
			if got := Del(ps, k); len(got) != 0 {
				t.Errorf("7.1: %s: Del of %q tells %v", name, k, got)
			}
			if v, ok := Get(ps, k); v != "" || ok {
				t.Errorf("7.1: %s: Get of %q tells %q, %v", name, k, v, ok)
			}
			for _, hi := range keys {
				if got := Scan(ps, k, hi, 99); len(got) != 0 {
					t.Errorf("7.1: %s: Scan from %q to %q tells %v", name, k, hi, got)
				}
			}
		}
	}
}

// All pages of up to three pages of up to two pairs, over a few Keys, against 7.1's words: and of those that are not right no call tells anything.
func TestRightOfShortPages(t *testing.T) {
	keys := []string{"", "a", "a\x00", "\x80", "\xff"}
	var all [][]api.Pair
	all = append(all, nil)
	for _, k := range keys {
		all = append(all, []api.Pair{{Key: k, Val: "x"}})
		for _, l := range keys {
			all = append(all, []api.Pair{{Key: k, Val: "x"}, {Key: l, Val: "x"}})
		}
	}
	ask := func(ps ...[]api.Pair) {
		want := rightByWords(ps)
		if Right(ps) != want {
			t.Fatalf("7.1: Right of %q is %v", ps, !want)
		}
		if want {
			return
		}
		v, ok := Get(ps, "a")
		if v != "" || ok || len(Put(ps, "b", "")) != 0 || len(Del(ps, "a")) != 0 || len(Scan(ps, "", "", 9)) != 0 {
			t.Fatalf("7.1: something is told of %q", ps)
		}
	}
	for _, p := range all {
		ask(p)
		for _, q := range all {
			ask(p, q)
			for _, r := range all {
				ask(p, q, r)
			}
		}
	}
}

func TestRightOfPagesOfAnyLength(t *testing.T) {
	for size := range 20 {
		text := "abcdefghijklmnopqrst"[:size]
		if got, want := Right([][]api.Pair{flat(of(text))}), size >= 1 && size <= api.PageRoom; got != want {
			t.Errorf("7.1: of a page of %d pairs Right is %v", size, got)
		}
	}
}

// The page of a key, as Put shows it: there alone a new key is put.
func TestPageOfAKey(t *testing.T) {
	ps := of("bd|fh|jl")
	for _, c := range []struct{ k, want string }{
		{"a", "abd|fh|jl"}, {"c", "bcd|fh|jl"}, {"e", "bde|fh|jl"},
		{"g", "bd|fgh|jl"}, {"i", "bd|fhi|jl"}, {"k", "bd|fh|jkl"}, {"m", "bd|fh|jlm"},
	} {
		if got := keysOf(Put(ps, c.k, "")); got != c.want {
			t.Errorf("7.1: put of %s: %s, not %s", c.k, got, c.want)
		}
	}
}

// 7.2

func TestExample(t *testing.T) {
	var ps [][]api.Pair
	steps := []string{"a", "ab", "abc", "abcd", "abcde", "abcdef", "abcdefg", "abcdefgh", "abcd|efghi"}
	for i, want := range steps {
		k := "abcdefghi"[i : i+1]
		ps = Put(ps, k, k+"!")
		if !same(ps, of(want)) {
			t.Errorf("7.2: after %s: %v, not %s", k, ps, want)
		}
	}
}

func TestPutOfAKeyThatIsThere(t *testing.T) {
	for _, text := range []string{"a", "ac", "abcdefgh", "abc|d|efghijkl|mn", "abcdefgh|ijklmnop"} {
		ps := of(text)
		for i, p := range ps {
			for j, x := range p {
				for _, v := range []string{"", "new", x.Val} {
					want := of(text)
					want[i][j].Val = v
					if got := Put(ps, x.Key, v); !same(got, want) {
						t.Errorf("7.2: %s: put of %s tells %v", text, x.Key, got)
					}
				}
			}
		}
	}
}

func TestPutOfANewKey(t *testing.T) {
	for _, c := range []struct{ name, pages, k, want string }{
		{"without pages", "", "m", "m"},
		{"below all, one page", "n", "m", "mn"},
		{"above all, one page", "l", "m", "lm"},
		{"within a page", "ln", "m", "lmn"},
		{"below all", "bc|de", "a", "abc|de"},
		{"above all", "bc|de", "f", "bc|def"},
		{"between two pages", "bc|ef", "d", "bcd|ef"},
		{"between two pages, the first full but for one", "bcdefgh|jk", "i", "bcdefghi|jk"},
		{"between two pages, the first full", "abcdefgh|jk", "i", "abcd|efghi|jk"},
		{"between two pages, the second full", "a|cdefghij", "b", "ab|cdefghij"},
		{"below all, the first full", "bcdefghi|jk", "a", "abcd|efghi|jk"},
		{"above all, the last full", "a|bcdefghi", "j", "a|bcde|fghij"},
		{"within a middle page that is full", "a|bcdefgij|k", "h", "a|bcde|fghij|k"},
		{"into a page of PageRoom but one", "abcdefg", "h", "abcdefgh"},
	} {
		want := of(c.want)
		if got := Put(of(c.pages), c.k, c.k+"!"); !same(got, want) {
			t.Errorf("7.2: %s: %v, not %s", c.name, got, c.want)
		}
	}
	for _, v := range []string{"", "v", "\xff\x00"} {
		for _, k := range []string{"", "k", "\x80"} {
			for _, none := range [][][]api.Pair{nil, {}} {
				if got := Put(none, k, v); !same(got, [][]api.Pair{{{Key: k, Val: v}}}) {
					t.Errorf("7.2: put of %q without pages tells %v", k, got)
				}
			}
		}
	}
}

func TestPutAtEachPlaceOfAFullPage(t *testing.T) {
	all := "ABCDEFGHI"
	for place := range len(all) {
		k := all[place : place+1]
		full := strings.Replace(all, k, "", 1)
		for _, c := range []struct{ ahead, behind string }{{"", ""}, {"1234|", ""}, {"", "|xyz"}, {"12345678|", "|qrstuvwx"}} {
			// Below a page's first Key a new key is the page's ahead, if there is one.
			want := c.ahead + "ABCD|EFGHI" + c.behind
			switch {
			case place == 0 && c.ahead == "1234|":
				want = "1234A|BCDEFGHI"
			case place == 0 && c.ahead == "12345678|":
				want = "1234|5678A|BCDEFGHI|qrstuvwx"
			}
			if got := Put(of(c.ahead+full+c.behind), k, k+"!"); !same(got, of(want)) {
				t.Errorf("7.2: put of %s into %s: %v, not %s", k, c.ahead+full+c.behind, got, want)
			}
		}
	}
}

func TestPutKeepsBytesInOrder(t *testing.T) {
	ps := pagesOf([]string{"", "a"}, []string{"a\x80", "\x80"}, []string{"\xff"})
	for _, c := range []struct {
		k        string
		page, at int
	}{
		{"\x00", 0, 1}, {"a\x00", 0, 2}, {"a\x7f\xff", 0, 2}, {"a\x81", 1, 1}, {"a\xff", 1, 1}, {"b", 1, 1},
		{"\x7f", 1, 1}, {"\x80\x00", 1, 2}, {"\xfe\xff", 1, 2}, {"\xff\x00", 2, 1}, {"\xff\xff", 2, 1},
	} {
		want := deep(ps)
		want[c.page] = slices.Insert(want[c.page], c.at, api.Pair{Key: c.k, Val: "new"})
		if got := Put(ps, c.k, "new"); !same(got, want) {
			t.Errorf("7.2: put of %q: %q, not %q", c.k, got, want)
		}
	}
}

// 7.3

func TestDel(t *testing.T) {
	for _, c := range []struct{ name, pages, k, want string }{
		{"without pages", "", "a", ""},
		{"the only pair of the only page", "a", "a", ""},
		{"of the only page one of two", "ab", "a", "b"},
		{"of the only page the last", "ab", "b", "a"},
		{"of the only page, full", "abcdefgh", "d", "abcefgh"},
		{"the only pair of the first page", "a|bcdef", "a", "bcdef"},
		{"the only pair of a middle page", "abcd|e|fghi", "e", "abcd|fghi"},
		{"the only pair of the last page", "abcde|f", "f", "abcde"},
		{"the only pair of the first page, others short", "a|b|c", "a", "b|c"},
		{"the only pair of a middle page, others short", "a|b|c", "b", "a|c"},
		{"the only pair of the last page, others short", "a|b|c", "c", "a|b"},

		{"4 with the page behind: 1 and 3", "ab|cde", "a", "bcde"},
		{"4 with the page behind: 2 and 2", "abc|de", "b", "acde"},
		{"4 with the page behind: 3 and 1", "abcd|e", "d", "abce"},
		{"3 with the page behind", "ab|cd", "b", "acd"},
		{"2 with the page behind", "ab|c", "a", "bc"},
		{"5 with the page behind: 1 and 4", "ab|cdef", "a", "b|cdef"},
		{"5 with the page behind: 2 and 3", "abc|def", "b", "ac|def"},
		{"5 with the page behind: 3 and 2", "abcd|ef", "d", "abc|ef"},
		{"5 with the page behind: 4 and 1", "abcde|f", "e", "abcd|f"},
		{"4 with the page behind, in the middle", "abcd|efg|hi|jkl", "f", "abcd|eghi|jkl"},
		{"5 with the page behind, in the middle", "abcd|efg|hij|klm", "f", "abcd|eg|hij|klm"},

		{"the last page: 4 with the one ahead: 3 and 1", "abc|de", "d", "abce"},
		{"the last page: 4 with the one ahead: 2 and 2", "ab|cde", "e", "abcd"},
		{"the last page: 4 with the one ahead: 1 and 3", "a|bcde", "c", "abde"},
		{"the last page: 5 with the one ahead: 4 and 1", "abcd|ef", "e", "abcd|f"},
		{"the last page: 5 with the one ahead: 3 and 2", "abc|def", "f", "abc|de"},
		{"the last page: 5 with the one ahead: 1 and 4", "a|bcdef", "b", "a|cdef"},
		{"the last of three: 4 with the one ahead", "a|bc|def", "d", "a|bcef"},
		{"the last of three: 2 with the one ahead", "abcd|e|fg", "g", "abcd|ef"},

		{"not the page ahead, if there is one behind", "a|bc|defgh", "b", "a|c|defgh"},
		{"not the page behind that one", "ab|c|d", "a", "bc|d"},
		{"not the page ahead as well", "a|bc|d", "b", "a|cd"},
		{"not pages elsewhere", "a|b|cdefg|h|i", "d", "a|b|cefg|h|i"},
		{"the last page, and not one further ahead", "a|b|cd", "c", "a|bd"},
		{"not when another page is gone", "ab|c|d", "c", "ab|d"},
	} {
		if got := Del(of(c.pages), c.k); !same(got, of(c.want)) {
			t.Errorf("7.3: %s: %v, not %s", c.name, got, c.want)
		}
	}
}

func TestDelOfAKeyThatIsNotThere(t *testing.T) {
	for _, text := range []string{"", "b", "bd", "b|d", "b|d|f|h", "bd|fh", "bdfhjlnp|rt"} {
		ps := of(text)
		for _, k := range []string{"", "a", "b\x00", "c", "e", "g", "i", "q", "s", "u", "\x80", "\xff"} {
			if got := Del(ps, k); !same(got, ps) {
				t.Errorf("7.3: %s without %q is %v", text, k, got)
			}
		}
	}
}

func TestDelOfAnEmptyKey(t *testing.T) {
	if got := Del(pagesOf([]string{""}, []string{"a"}), ""); !same(got, pagesOf([]string{"a"})) {
		t.Errorf("7.3: without the empty Key: %q", got)
	}
	if got := Del(pagesOf([]string{"", "\x80"}, []string{"\xff"}), ""); !same(got, pagesOf([]string{"\x80", "\xff"})) {
		t.Errorf("7.3: without the empty Key: %q", got)
	}
}

// 7.4

func TestGet(t *testing.T) {
	ps := [][]api.Pair{
		{{Key: "", Val: "empty"}, {Key: "a", Val: ""}, {Key: "aa", Val: "aa!"}},
		{{Key: "c", Val: "c!"}},
		{{Key: "\x80", Val: "\x00"}, {Key: "\xff", Val: ""}, {Key: "\xff\x00", Val: "last"}},
	}
	for _, p := range ps {
		for _, x := range p {
			if v, ok := Get(ps, x.Key); v != x.Val || !ok {
				t.Errorf("7.4: Get of %q is %q, %v", x.Key, v, ok)
			}
		}
	}
	for _, k := range []string{"\x00", "A", "a\x00", "aaa", "b", "c\x00", "d", "\x7f", "\x80\x00", "\xfe", "\xff\xff"} {
		if v, ok := Get(ps, k); v != "" || ok {
			t.Errorf("7.4: Get of %q, which is not there, is %q, %v", k, v, ok)
		}
	}
	for _, none := range [][][]api.Pair{nil, {}} {
		if v, ok := Get(none, ""); v != "" || ok {
			t.Errorf("7.4: Get without pages is %q, %v", v, ok)
		}
	}
	if v, ok := Get(ps[1:], "a"); v != "" || ok {
		t.Errorf("7.4: Get below all is %q, %v", v, ok)
	}
}

func TestScan(t *testing.T) {
	const most = int(^uint(0) >> 1)
	ps := of("bd|fhj|l|nprtvxz")
	for _, c := range []struct {
		name   string
		lo, hi string
		n      int
		want   string
	}{
		{"all", "", "", 99, "bdfhjlnprtvxz"},
		{"as many as there are", "", "", 13, "bdfhjlnprtvxz"},
		{"one fewer", "", "", 12, "bdfhjlnprtvx"},
		{"one more", "", "", 14, "bdfhjlnprtvxz"},
		{"the greatest n", "", "", most, "bdfhjlnprtvxz"},
		{"n of 0", "", "", 0, ""},
		{"n of 1", "", "", 1, "b"},
		{"n to a page's end", "", "", 2, "bd"},
		{"n of one behind a page's end", "", "", 3, "bdf"},
		{"n below 0", "", "", -1, ""},
		{"n far below 0", "", "", -most - 1, ""},
		{"n of 0 in a range", "d", "l", 0, ""},
		{"n below 0 in a range", "d", "l", -1, ""},
		{"lo at a key", "d", "", 99, "dfhjlnprtvxz"},
		{"lo at a page's first key", "f", "", 99, "fhjlnprtvxz"},
		{"lo at the last key", "z", "", 99, "z"},
		{"lo within a page", "g", "", 99, "hjlnprtvxz"},
		{"lo between two pages", "e", "", 99, "fhjlnprtvxz"},
		{"lo below all", "a", "", 99, "bdfhjlnprtvxz"},
		{"lo above all", "zz", "", 99, ""},
		{"hi at a key", "", "j", 99, "bdfh"},
		{"hi at a page's first key", "", "f", 99, "bd"},
		{"hi at the first key", "", "b", 99, ""},
		{"hi at the last key", "", "z", 99, "bdfhjlnprtvx"},
		{"hi within a page", "", "i", 99, "bdfh"},
		{"hi between two pages", "", "e", 99, "bd"},
		{"hi below all", "", "a", 99, ""},
		{"hi above all", "", "zz", 99, "bdfhjlnprtvxz"},
		{"lo and hi at keys", "d", "p", 99, "dfhjln"},
		{"lo and hi between keys", "c", "q", 99, "dfhjlnp"},
		{"one page", "f", "l", 99, "fhj"},
		{"one pair", "l", "l\x00", 99, "l"},
		{"between keys alone", "g", "h", 99, ""},
		{"the same, at a key", "h", "h", 99, ""},
		{"the same, between keys", "g", "g", 99, ""},
		{"the same, empty", "", "", 1, "b"},
		{"lo above hi, at keys", "p", "d", 99, ""},
		{"lo above hi, in one page", "j", "f", 99, ""},
		{"lo above hi, between keys", "q", "c", 99, ""},
		{"lo above all, hi below all", "zz", "a", 99, ""},
		{"both below all", "", "a", 99, ""},
		{"both above all", "zz", "zzz", 99, ""},
		{"the first of a range", "e", "z", 1, "f"},
		{"the first four of a range", "h", "z", 4, "hjln"},
		{"n as many as the range has", "h", "p", 4, "hjln"},
		{"n more than the range has", "h", "p", 5, "hjln"},
		{"hi of bytes from 80 on", "x", "\x80", 99, "xz"},
		{"lo of bytes from 80 on", "\xff", "", 99, ""},
	} {
		if got := Scan(ps, c.lo, c.hi, c.n); !slices.Equal(got, flat(of(c.want))) {
			t.Errorf("7.4: %s: %v, not %s", c.name, got, c.want)
		}
	}
	for _, none := range [][][]api.Pair{nil, {}} {
		if got := Scan(none, "", "", 9); len(got) != 0 {
			t.Errorf("7.4: Scan without pages: %v", got)
		}
	}
}

func TestScanByBytes(t *testing.T) {
	ps := pagesOf([]string{"", "\x00", "a"}, []string{"a\x00", "aa"}, []string{"\x7f", "\x80"}, []string{"\x80\x80", "\xff", "\xff\xff"})
	keys := []string{"", "\x00", "\x00\x00", "A", "a", "a\x00", "a\x01", "aa", "b", "\x7f", "\x80", "\x80\x7f", "\x80\x80", "\x81", "\xff", "\xff\x00", "\xff\xff", "\xff\xff\xff"}
	for _, lo := range keys {
		for _, hi := range keys {
			for n := -1; n <= 11; n++ {
				if got, want := Scan(ps, lo, hi, n), scanByWords(ps, lo, hi, n); !slices.Equal(got, want) {
					t.Fatalf("7.4: Scan from %q to %q of %d: %q, not %q", lo, hi, n, got, want)
				}
			}
		}
	}
}

// 7.5

// Every call on all pages of up to three of all lengths, at each Key and between any two, against the words of the promises.
func TestAllShapes(t *testing.T) {
	lengths := []int{1, 2, 3, 4, 5, 6, 7, 8}
	shapes(lengths, func(ps [][]api.Pair) {
		for n := range 2*len(flat(ps)) + 1 {
			k := fmt.Sprintf("%02d", n)
			got, want := Put(ps, k, "new"), putByWords(ps, k, "new")
			if !same(got, want) || !Right(got) {
				t.Fatalf("7.2: %v with %s: %v, not %v", ps, k, got, want)
			}
			got, want = Del(ps, k), delByWords(ps, k)
			if !same(got, want) || !Right(got) {
				t.Fatalf("7.3: %v without %s: %v, not %v", ps, k, got, want)
			}
			gotVal, gotOK := Get(ps, k)
			if wantVal, wantOK := getByWords(ps, k); gotVal != wantVal || gotOK != wantOK {
				t.Fatalf("7.4: of %v %s: %q, %v", ps, k, gotVal, gotOK)
			}
		}
	})
}

// Every Scan of all pages of up to three of a few lengths.
func TestAllScans(t *testing.T) {
	lengths := []int{1, 2, 3, 8}
	shapes(lengths, func(ps [][]api.Pair) {
		long := len(flat(ps))
		bounds := []string{""}
		for n := range 2*long + 1 {
			bounds = append(bounds, fmt.Sprintf("%02d", n))
		}
		for _, lo := range bounds {
			for _, hi := range bounds {
				for _, n := range []int{-1, 0, 1, 2, long, long + 1} {
					if got, want := Scan(ps, lo, hi, n), scanByWords(ps, lo, hi, n); !slices.Equal(got, want) {
						t.Fatalf("7.4: of %v from %q to %q, %d: %v, not %v", ps, lo, hi, n, got, want)
					}
				}
			}
		}
	})
}

// drawKeys tells keys of a few bytes at the edges, many of which begin one another.
func drawKeys(r *rand.Rand, n int) []string {
	var keys []string
	for range n {
		b := make([]byte, r.Intn(4))
		for i := range b {
			b[i] = "\x00\x01ab\x7f\x80\xc3\xfe\xff"[r.Intn(9)]
		}
		keys = append(keys, string(b))
	}
	return keys
}

// holds asks pages for all that a plain list of pairs has.
func holds(t *testing.T, ps [][]api.Pair, plain []api.Pair, keys []string) {
	t.Helper()
	if !Right(ps) || !rightByWords(ps) {
		t.Fatalf("7.5: not right: %q", ps)
	}
	if !slices.Equal(flat(ps), plain) || !slices.Equal(Scan(ps, "", "", len(plain)+1), plain) {
		t.Fatalf("7.5: %q, not %q", ps, plain)
	}
	for _, k := range keys {
		v, ok := Get(ps, k)
		i := slices.IndexFunc(plain, func(x api.Pair) bool { return x.Key == k })
		if ok != (i >= 0) || ok && v != plain[i].Val || !ok && v != "" {
			t.Fatalf("7.5: %q at %q: %q, %v", plain, k, v, ok)
		}
	}
}

// turn puts k into a plain list of pairs, or lets it go.
func turn(plain []api.Pair, k, v string, put bool) []api.Pair {
	plain = slices.DeleteFunc(slices.Clone(plain), func(x api.Pair) bool { return x.Key == k })
	if put {
		plain = append(plain, api.Pair{Key: k, Val: v})
		sort.Slice(plain, func(i, j int) bool { return belowByBytes(plain[i].Key, plain[j].Key) })
	}
	return plain
}

func TestDrawnRuns(t *testing.T) {
	r := rand.New(rand.NewSource(7))
	for run := range 150 {
		keys := drawKeys(r, 5+r.Intn(60))
		var ps [][]api.Pair
		var plain []api.Pair
		share := 1 + r.Intn(9)
		for step := range 150 {
			// Later in a run more is let go than put, so that pages are joined and end.
			put := r.Intn(10) < share
			if step > 100 {
				put = r.Intn(10) < 2
			}
			k, v := keys[r.Intn(len(keys))], fmt.Sprint(run, step)
			want := delByWords(ps, k)
			if put {
				want = putByWords(ps, k, v)
				ps = Put(ps, k, v)
			} else {
				ps = Del(ps, k)
			}
			if !same(ps, want) {
				t.Fatalf("7.5: %q, not %q", ps, want)
			}
			plain = turn(plain, k, v, put)
			holds(t, ps, plain, keys[:5])
			lo, hi, n := keys[r.Intn(len(keys))], keys[r.Intn(len(keys))], r.Intn(20)-1
			if got, want := Scan(ps, lo, hi, n), scanByWords(ps, lo, hi, n); !slices.Equal(got, want) {
				t.Fatalf("7.5: Scan of %q from %q to %q, %d: %q, not %q", ps, lo, hi, n, got, want)
			}
		}
	}
}

// Keys put in whatever order, rising, falling and drawn, then let go in another: nothing is left.
func TestWhateverOrder(t *testing.T) {
	r := rand.New(rand.NewSource(8))
	orders := map[string]func(n int) []int{
		"rising": func(n int) []int {
			order := r.Perm(n)
			slices.Sort(order)
			return order
		},
		"falling": func(n int) []int {
			order := r.Perm(n)
			slices.Sort(order)
			slices.Reverse(order)
			return order
		},
		"drawn": r.Perm,
	}
	for in, inOrder := range orders {
		for out, outOrder := range orders {
			for _, n := range []int{0, 1, 2, 8, 9, 16, 17, 100} {
				var ps [][]api.Pair
				var plain []api.Pair
				for _, i := range inOrder(n) {
					k := fmt.Sprintf("%03d", i)
					ps, plain = Put(ps, k, "v"+k), turn(plain, k, "v"+k, true)
					holds(t, ps, plain, []string{k, ""})
				}
				for _, i := range outOrder(n) {
					k := fmt.Sprintf("%03d", i)
					ps, plain = Del(ps, k), turn(plain, k, "", false)
					holds(t, ps, plain, []string{k, ""})
				}
				if len(ps) != 0 {
					t.Errorf("7.5: %d put %s, let go %s: %v is left", n, in, out, ps)
				}
			}
		}
	}
}

// The rules of all calls

// roomy copies pages, with spare room of every list full of what is not theirs.
func roomy(ps [][]api.Pair) [][]api.Pair {
	var qs [][]api.Pair
	mark := api.Pair{Key: "spare", Val: "room"}
	for _, p := range ps {
		q := append(slices.Clone(p), mark, mark, mark)
		qs = append(qs, q[:len(p)])
	}
	long := len(qs)
	qs = append(qs, []api.Pair{mark}, []api.Pair{mark}, []api.Pair{mark})
	return qs[:long]
}

// whole is pages with their spare room.
func whole(ps [][]api.Pair) [][]api.Pair {
	var qs [][]api.Pair
	for _, p := range ps[:cap(ps)] {
		qs = append(qs, slices.Clone(p[:cap(p)]))
	}
	return qs
}

// spoil writes over pages, their spare room too.
func spoil(ps [][]api.Pair) {
	ps = ps[:cap(ps)]
	for i, p := range ps {
		spoilPairs(p)
		ps[i] = []api.Pair{{Key: "spoilt", Val: "spoilt"}}
	}
}

func spoilPairs(p []api.Pair) {
	p = p[:cap(p)]
	for j := range p {
		p[j] = api.Pair{Key: "spoilt", Val: "spoilt"}
	}
}

// apart fails if writing behind the end of one page of ps is to be seen in another.
func apart(t *testing.T, ps [][]api.Pair) {
	t.Helper()
	want := deep(ps)
	for i := range ps {
		got := ps[i]
		for range 10 {
			got = append(got, api.Pair{Key: "behind", Val: "behind"})
		}
		if !same(ps, want) {
			t.Fatalf("R3: what is appended to page %d is to be seen in another: %v, not %v", i, ps, want)
		}
		spoilPairs(ps[i])
		want[i] = slices.Clone(ps[i])
		if !same(ps, want) {
			t.Fatalf("R3: what is written into page %d is to be seen in another: %v, not %v", i, ps, want)
		}
	}
}

func TestOwnMemory(t *testing.T) {
	lengths := []int{1, 2, 4, 7, 8}
	shapes(lengths, func(plain [][]api.Pair) {
		ps := roomy(plain)
		before := whole(ps)
		unchanged := func(what string) {
			t.Helper()
			if !same(plain, ps) || !same(whole(ps), before) {
				t.Fatalf("R3: %s changes what is handed in: %v, not %v", what, ps, plain)
			}
		}
		for n := range 2*len(flat(plain)) + 1 {
			k := fmt.Sprintf("%02d", n)
			turns := map[string]func() [][]api.Pair{
				"Put of " + k: func() [][]api.Pair { return Put(ps, k, "new") },
				"Del of " + k: func() [][]api.Pair { return Del(ps, k) },
			}
			for name, call := range turns {
				first := call()
				unchanged(name)
				told := deep(first)
				apart(t, call())
				unchanged(name + ", and appending to what it told,")
				spoil(first)
				unchanged(name + ", and writing into what it told,")
				if again := call(); !same(again, told) {
					t.Fatalf("R5: %s of the same pages: %v, not %v", name, again, told)
				}
			}
			for _, most := range []int{0, 1, 3, 99} {
				first := Scan(ps, k, "", most)
				unchanged("Scan")
				told := slices.Clone(first)
				_ = append(first, api.Pair{Key: "behind", Val: "behind"})
				spoilPairs(first)
				unchanged("Scan, and writing into what it told,")
				if again := Scan(ps, k, "", most); !slices.Equal(again, told) {
					t.Fatalf("R5: Scan from %s of the same pages: %v, not %v", k, again, told)
				}
			}
			Get(ps, k)
			Right(ps)
			unchanged("Get or Right")
		}
	})
}

// What Put and Del tell lives on when it is handed in again, and so does what they were handed.
func TestEarlierPagesStay(t *testing.T) {
	r := rand.New(rand.NewSource(9))
	for range 20 {
		var ps [][]api.Pair
		var told, copies [][][]api.Pair
		for step := range 80 {
			k := fmt.Sprintf("%02d", r.Intn(30))
			if r.Intn(3) > 0 {
				ps = Put(ps, k, fmt.Sprint(step))
			} else {
				ps = Del(ps, k)
			}
			told, copies = append(told, ps), append(copies, deep(ps))
		}
		for i := range told {
			if !same(told[i], copies[i]) {
				t.Fatalf("R3: what was told at step %d is %v, not %v", i, told[i], copies[i])
			}
		}
		for i := range told {
			spoil(told[i])
			if i+1 < len(told) && !same(told[i+1], copies[i+1]) {
				t.Fatalf("R3: what is written into what step %d told turns what the next one told", i)
			}
		}
	}
}

// Pages that are not right are not changed either.
func TestWrongPagesStay(t *testing.T) {
	for name, plain := range wrong() {
		ps := roomy(plain)
		before := whole(ps)
		for _, k := range []string{"", "a", "c", "z", "\xff"} {
			Put(ps, k, "new")
			Del(ps, k)
			Get(ps, k)
			Scan(ps, k, "", 9)
		}
		if !same(ps, plain) || !same(whole(ps), before) {
			t.Errorf("R3: %s: changed", name)
		}
	}
}
