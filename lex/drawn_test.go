package lex

import (
	"encoding/hex"
	"fmt"
	"math"
	"math/rand"
	"slices"
	"strconv"
	"strings"
	"testing"

	"falsework/api"
	"falsework/desc"
	"falsework/flo"
	"falsework/value"
)

func pick(r *rand.Rand, l []string) string { return l[r.Intn(len(l))] }

// drawnText is n bytes of a set.
func drawnText(r *rand.Rand, n int, set string) string {
	b := make([]byte, n)
	for i := range b {
		b[i] = set[r.Intn(len(set))]
	}
	return string(b)
}

func drawnBytes(r *rand.Rand, n int) string {
	b := make([]byte, n)
	r.Read(b)
	return string(b)
}

// drawnName is a name: no word.
func drawnName(r *rand.Rand) Token {
	for {
		s := drawnText(r, 1, "abcdefwxyz") + drawnText(r, r.Intn(api.MaxName), "abcdefwxyz0189_")
		if !slices.Contains(allWords(), s) {
			return Token{Kind: 2, Text: s}
		}
	}
}

func drawnFloat(r *rand.Rand) Token {
	n := []uint64{r.Uint64(), r.Uint64() | 0x7ff<<52, 0, 1 << 63, 0x7ff << 52, 0xfff << 52, 0x3ff << 52}[r.Intn(7)]
	return Token{Kind: 3, Text: fmt.Sprintf("f'%016x'", n), V: api.Value{Kind: api.KFloat, F: flo.Canon(n)}}
}

// drawnToken is a token that may be, made from what it means.
func drawnToken(r *rand.Rand) Token {
	switch r.Intn(7) {
	case 0:
		return Token{Kind: 1, Text: pick(r, allWords())}
	case 1:
		return drawnName(r)
	case 2:
		n := int64(r.Uint64()) >> r.Intn(64)
		return Token{Kind: 3, Text: strconv.FormatInt(n, 10), V: api.Value{Kind: api.KInt, N: n}}
	case 3:
		s := drawnText(r, r.Intn(api.MaxText+1), "'' (),;ab09_xf-~A\"\\/")
		return Token{Kind: 3, Text: "'" + strings.ReplaceAll(s, "'", "''") + "'", V: api.Value{Kind: api.KText, S: s}}
	case 4:
		s := drawnBytes(r, r.Intn(api.MaxText+1))
		return Token{Kind: 3, Text: "x'" + hex.EncodeToString([]byte(s)) + "'", V: api.Value{Kind: api.KBytes, S: s}}
	case 5:
		return drawnFloat(r)
	default:
		return Token{Kind: 4, Text: drawnText(r, 1, "(),;=<>+*")}
	}
}

// drawnFault is what may begin no token, or only just may.
func drawnFault(r *rand.Rand) string {
	switch r.Intn(6) {
	case 0:
		return drawnText(r, 1, "abxf") + drawnText(r, api.MaxName-2+r.Intn(4), "ab09_x")
	case 1:
		return pick(r, []string{"", "-", "--", "-0", "0", "00"}) + drawnText(r, 17+r.Intn(4), "0289")
	case 2:
		return "'" + drawnText(r, api.MaxText-2+r.Intn(5), "ab ") + pick(r, []string{"'", "''", "''''", "'''", ""})
	case 3:
		return "x'" + drawnText(r, 2*api.MaxText-3+r.Intn(7), "09af") + pick(r, []string{"'", "'", "''", ""})
	case 4:
		return "f'" + drawnText(r, 15+r.Intn(3), "07f8") + pick(r, []string{"'", "'", "''", ""})
	default:
		return drawnBytes(r, 1+r.Intn(3))
	}
}

// turned is s with a byte turned, put in or taken out.
func turned(r *rand.Rand, s string) string {
	if s == "" {
		return s
	}
	i := r.Intn(len(s))
	c := drawnText(r, 1, "'x f-0a_A(\n\x00\x7f")
	switch r.Intn(4) {
	case 0:
		return s[:i] + c + s[i+1:]
	case 1:
		return s[:i] + c + s[i:]
	case 2:
		return s[:i] + s[i+1:]
	default:
		return s[:i]
	}
}

// 16.1: tokens made from what they mean, with blanks between any two, are told as they were made.
func TestDrawnTokens(t *testing.T) {
	r := rand.New(rand.NewSource(16))
	for range 20000 {
		s := drawnText(r, r.Intn(3), " \t\n")
		var want []Token
		for range r.Intn(12) {
			x := drawnToken(r)
			behind := s + x.Text + drawnText(r, 1+r.Intn(2), " \t\n")
			if len(behind) > api.MaxSql {
				break
			}
			x.At = len(s)
			want, s = append(want, x), behind
		}
		tells(t, s, want...)
		holds(t, s)
		if t.Failed() {
			return
		}
	}
}

// 16.1: drawn texts of tokens, of what is none and of blanks, with few of them between, and turned.
func TestDrawnTexts(t *testing.T) {
	r := rand.New(rand.NewSource(161))
	for range 60000 {
		s := ""
		for range r.Intn(7) {
			switch r.Intn(8) {
			case 0:
				s += drawnFault(r)
			case 1, 2:
				s += drawnText(r, r.Intn(3), " \t\n")
			default:
				s += drawnToken(r).Text
			}
		}
		for range r.Intn(3) {
			s = turned(r, s)
		}
		holds(t, s)
		if t.Failed() {
			return
		}
	}
}

// 16.1: drawn bytes, most of them such as tokens are made of.
func TestDrawnBytes(t *testing.T) {
	r := rand.New(rand.NewSource(162))
	for range 40000 {
		holds(t, drawnText(r, r.Intn(12), "'''xf0019-a_ (*z"))
		holds(t, drawnText(r, r.Intn(40), "'0a "))
		holds(t, drawnBytes(r, r.Intn(5)))
		if t.Failed() {
			return
		}
	}
}

// 16.1: each text of at most 5 of these bytes.
func TestEachShortText(t *testing.T) {
	all := []string{""}
	for range 5 {
		var longer []string
		for _, s := range all {
			for _, c := range "ax0-' _(A" {
				longer = append(longer, s+string(c))
			}
		}
		for _, s := range longer {
			if holds(t, s); t.Failed() {
				return
			}
		}
		all = longer
	}
}

// 16.1: any two bytes, alone, as a text and in the middle.
func TestAnyTwoBytes(t *testing.T) {
	for a := range 256 {
		for b := range 256 {
			s := string([]byte{byte(a), byte(b)})
			for _, s := range []string{s, "'" + s + "'", "a " + s + " b", "x'" + s + "'"} {
				if holds(t, s); t.Failed() {
					return
				}
			}
		}
	}
}

// 16.1: of what is told each token stands where it says, with nothing but blanks between; each value may be (2), and is what its text alone tells; a name is one of layer 6.
func TestTokensStandWhereTheySay(t *testing.T) {
	r := rand.New(rand.NewSource(163))
	told := 0
	for range 20000 {
		s := ""
		for range r.Intn(8) {
			s += drawnToken(r).Text + drawnText(r, r.Intn(2), " \t\n")
		}
		l, _, e := Lex(s)
		if e != api.OK {
			continue
		}
		told++
		at := 0
		for _, x := range l {
			if x.At < at || strings.Trim(s[at:x.At], " \t\n") != "" || !strings.HasPrefix(s[x.At:], x.Text) {
				t.Fatalf("16.1: Lex(%q): %+v behind %d", s, x, at)
			}
			at = x.At + len(x.Text)
			asItIsAlone(t, x)
		}
		if last := l[len(l)-1]; last != (Token{At: len(s)}) {
			t.Fatalf("16.1: Lex(%q) ends with %+v", s, last)
		}
	}
	if told < 1000 {
		t.Errorf("only %d texts were told", told)
	}
}

func asItIsAlone(t *testing.T, x Token) {
	t.Helper()
	if x.Kind == 0 {
		return
	}
	alone := x
	alone.At = 0
	tells(t, x.Text, alone)
	if x.Kind == 3 && !value.May(x.V) || x.Kind != 3 && x.V != (api.Value{}) {
		t.Errorf("16.1: the value of %+v", x)
	}
	if (x.Kind == 2) != desc.Name(x.Text) || (x.Kind == 1) != Word(x.Text) {
		t.Errorf("16.1: %+v: name %t, word %t", x, desc.Name(x.Text), Word(x.Text))
	}
}

// 16.2: a text is a word just if the document lists it.
func TestDrawnWords(t *testing.T) {
	r := rand.New(rand.NewSource(164))
	for range 20000 {
		s := turned(r, pick(r, allWords()))
		if Word(s) != slices.Contains(allWords(), s) {
			t.Fatalf("16.2: Word(%q): %t", s, Word(s))
		}
		if s = drawnText(r, r.Intn(5), "adeilnosxt"); Word(s) != slices.Contains(allWords(), s) {
			t.Fatalf("16.2: Word(%q): %t", s, Word(s))
		}
	}
}

// 16.1: ints about the ends of int64 and about each power of ten.
func TestIntsAboutTheEnds(t *testing.T) {
	for back := range uint64(40) {
		for _, n := range []uint64{math.MaxInt64 + 20 - back, math.MaxUint64 - back, back} {
			holds(t, strconv.FormatUint(n, 10))
			holds(t, "-"+strconv.FormatUint(n, 10))
		}
	}
	for n := range 40 {
		for _, s := range []string{"1" + strings.Repeat("0", n), strings.Repeat("9", n+1), "9" + strings.Repeat("0", n), strings.Repeat("0", n+1)} {
			holds(t, s)
			holds(t, "-"+s)
		}
	}
}
