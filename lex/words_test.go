package lex

import (
	"encoding/hex"
	"math"
	"math/big"
	"regexp"
	"slices"
	"strconv"
	"strings"
	"testing"

	"falsework/api"
)

// A plain reckoning by the words of chapter 16, against which the program is held: at each place each shape is tried by a regular expression of its own, the longest counts, and only then is asked whether what has that shape may be.

// allWords are the words, as the document lists them.
func allWords() []string {
	return strings.Fields("insert into values update set where and delete from select create unique table index on drop alter add column default not null is primary key bool int float bytes text true false")
}

// shape is what a token of one sort looks like, whatever its size, and the token that is made of it, if it may be.
type shape struct {
	like *regexp.Regexp
	made func(text, behind string) (Token, bool)
}

func like(form string) *regexp.Regexp {
	re := regexp.MustCompile(`\A(?:` + form + `)`)
	re.Longest()
	return re
}

// shapes is made once: a regular expression is slow to make.
var shapes = []shape{
	{like(`[a-z][a-z0-9_]*`), nameOf},
	{like(`-?[0-9]+`), intOf},
	{like(`'([ -&(-~]|'')*'`), textOf},
	{like(`x'([0-9a-f][0-9a-f])*'`), bytesOf},
	{like(`f'[0-9a-f]{16}'`), floatOf},
	{like(`[(),;=<>+*]`), signOf},
}

func nameOf(text, behind string) (Token, bool) {
	if (text == "x" || text == "f") && strings.HasPrefix(behind, "'") {
		return Token{}, false
	}
	if slices.Contains(allWords(), text) {
		return Token{Kind: 1, Text: text}, true
	}
	return Token{Kind: 2, Text: text}, len(text) <= 16
}

func intOf(text, behind string) (Token, bool) {
	n, _ := new(big.Int).SetString(text, 10)
	if !n.IsInt64() || n.String() != text || like(`[a-z_]`).MatchString(behind) {
		return Token{}, false
	}
	return Token{Kind: 3, Text: text, V: api.Value{Kind: api.KInt, N: n.Int64()}}, true
}

func textOf(text, behind string) (Token, bool) {
	if strings.HasPrefix(behind, "'") {
		// The last two quotes mean one: the text has no end, or what may not be in it.
		return Token{}, false
	}
	s := strings.ReplaceAll(text[1:len(text)-1], "''", "'")
	return Token{Kind: 3, Text: text, V: api.Value{Kind: api.KText, S: s}}, len(s) <= 40
}

func bytesOf(text, _ string) (Token, bool) {
	b, err := hex.DecodeString(text[2 : len(text)-1])
	return Token{Kind: 3, Text: text, V: api.Value{Kind: api.KBytes, S: string(b)}}, err == nil && len(b) <= 40
}

func floatOf(text, _ string) (Token, bool) {
	n, err := strconv.ParseUint(text[2:18], 16, 64)
	switch f := math.Float64frombits(n); {
	case f != f:
		n = 0x7ff8000000000000
	case f == 0:
		n = 0
	}
	return Token{Kind: 3, Text: text, V: api.Value{Kind: api.KFloat, F: n}}, err == nil
}

func signOf(text, _ string) (Token, bool) {
	return Token{Kind: 4, Text: text}, true
}

// longest is the token that s begins with.
func longest(s string) (Token, bool) {
	var t Token
	size, ok := 0, false
	for _, p := range shapes {
		if text := p.like.FindString(s); len(text) > size {
			size = len(text)
			t, ok = p.made(text, s[size:])
		}
	}
	return t, ok
}

// reckoned is what Lex must tell.
func reckoned(s string) ([]Token, int, api.Errno) {
	if len(s) > 400 {
		return nil, 0, api.ErrLong
	}
	var l []Token
	at := 0
	for {
		at += len(s[at:]) - len(strings.TrimLeft(s[at:], " \t\n"))
		if at == len(s) {
			return append(l, Token{At: at}), 0, api.OK
		}
		t, ok := longest(s[at:])
		if !ok {
			return nil, at, api.ErrForm
		}
		t.At = at
		l = append(l, t)
		at += len(t.Text)
	}
}

// holds asks Lex of s, and holds what it tells against the reckoning.
func holds(t *testing.T, s string) {
	t.Helper()
	got, at, e := Lex(s)
	want, place, wrong := reckoned(s)
	if !slices.Equal(got, want) || at != place || e != wrong {
		t.Errorf("16.1: Lex(%q): %+v %d %d, not %+v %d %d", s, got, at, e, want, place, wrong)
	}
}
