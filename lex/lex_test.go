package lex

import (
	"math"
	"slices"
	"strings"
	"testing"

	"falsework/api"
)

func wordAt(s string, at int) Token         { return Token{Kind: 1, Text: s, At: at} }
func nameAt(s string, at int) Token         { return Token{Kind: 2, Text: s, At: at} }
func signAt(s string, at int) Token         { return Token{Kind: 4, Text: s, At: at} }
func intAt(s string, n int64, at int) Token { return valueAt(s, api.Value{Kind: api.KInt, N: n}, at) }
func textAt(s, v string, at int) Token      { return valueAt(s, api.Value{Kind: api.KText, S: v}, at) }
func bytesAt(s, v string, at int) Token     { return valueAt(s, api.Value{Kind: api.KBytes, S: v}, at) }
func floatAt(s string, f uint64, at int) Token {
	return valueAt(s, api.Value{Kind: api.KFloat, F: f}, at)
}
func valueAt(s string, v api.Value, at int) Token { return Token{Kind: 3, Text: s, V: v, At: at} }

// tells asks Lex of s: these tokens, and behind them the end.
func tells(t *testing.T, s string, want ...Token) {
	t.Helper()
	want = append(slices.Clone(want), Token{At: len(s)})
	if l, at, e := Lex(s); !slices.Equal(l, want) || at != 0 || e != api.OK {
		t.Errorf("16.1: Lex(%q): %+v %d %d, not %+v", s, l, at, e, want)
	}
}

// refuses asks Lex of s, which has its first fault at a place.
func refuses(t *testing.T, s string, place int) {
	t.Helper()
	if l, at, e := Lex(s); l != nil || at != place || e != api.ErrForm {
		t.Errorf("16.1: Lex(%q): %+v %d %d, not ErrForm at %d", s, l, at, e, place)
	}
}

// refusesAll asks of each text, alone, in the middle and at the end, whether it is refused where it begins.
func refusesAll(t *testing.T, all ...string) {
	t.Helper()
	for _, s := range all {
		refuses(t, s, 0)
		refuses(t, s+" ", 0)
		refuses(t, " "+s, 1)
		refuses(t, "a\n"+s, 2)
		refuses(t, "(,"+s, 2)
		refuses(t, "select 'a' "+s+" , b", 11)
	}
}

// 16.1: the document's examples

func TestExamples(t *testing.T) {
	tells(t, "f'3ff0000000000000'", floatAt("f'3ff0000000000000'", 0x3ff0000000000000, 0))
	tells(t, "-5", intAt("-5", -5, 0))
	tells(t, "a-5", nameAt("a", 0), intAt("-5", -5, 1))
	refuses(t, "A", 0)
}

func TestStatement(t *testing.T) {
	tells(t, "select * from t where a = 1;",
		wordAt("select", 0), signAt("*", 7), wordAt("from", 9), nameAt("t", 14), wordAt("where", 16),
		nameAt("a", 22), signAt("=", 24), intAt("1", 1, 26), signAt(";", 27))
	tells(t, "insert into t(a,b)values(-1,'it''s')",
		wordAt("insert", 0), wordAt("into", 7), nameAt("t", 12), signAt("(", 13), nameAt("a", 14), signAt(",", 15), nameAt("b", 16), signAt(")", 17),
		wordAt("values", 18), signAt("(", 24), intAt("-1", -1, 25), signAt(",", 27), textAt("'it''s'", "it's", 28), signAt(")", 35))
}

// 16.1: the end and blanks

func TestEnd(t *testing.T) {
	tells(t, "")
	for _, s := range []string{" ", "\t", "\n", "   ", " \t\n", "\n\n\t "} {
		tells(t, s)
	}
	tells(t, "a", nameAt("a", 0))
	tells(t, "a ", nameAt("a", 0))
	tells(t, "''\n\n", textAt("''", "", 0))
}

func TestBlanks(t *testing.T) {
	for _, b := range []string{" ", "\t", "\n", "  ", "\t\n ", "\n\n\n"} {
		n := len(b)
		tells(t, b+"a", nameAt("a", n))
		tells(t, "a"+b, nameAt("a", 0))
		tells(t, "a"+b+"b", nameAt("a", 0), nameAt("b", 1+n))
		tells(t, b+"1"+b+"-1"+b, intAt("1", 1, n), intAt("-1", -1, 1+2*n))
		tells(t, "'a'"+b+"'b'", textAt("'a'", "a", 0), textAt("'b'", "b", 3+n))
		tells(t, "sel"+b+"ect", nameAt("sel", 0), nameAt("ect", 3+n))
		tells(t, "x"+b+"''", nameAt("x", 0), textAt("''", "", 1+n))
		tells(t, "1"+b+"a", intAt("1", 1, 0), nameAt("a", 1+n))
		refuses(t, "-"+b+"1", 0)
	}
}

func TestNothingBetween(t *testing.T) {
	tells(t, "a'b'", nameAt("a", 0), textAt("'b'", "b", 1))
	tells(t, "'b'a", textAt("'b'", "b", 0), nameAt("a", 3))
	tells(t, "'b'1", textAt("'b'", "b", 0), intAt("1", 1, 3))
	tells(t, "1'b'", intAt("1", 1, 0), textAt("'b'", "b", 1))
	tells(t, "1-1", intAt("1", 1, 0), intAt("-1", -1, 1))
	tells(t, "+1", signAt("+", 0), intAt("1", 1, 1))
	tells(t, "a+1", nameAt("a", 0), signAt("+", 1), intAt("1", 1, 2))
	tells(t, "x'00''00'", bytesAt("x'00'", "\x00", 0), textAt("'00'", "00", 5))
	tells(t, "x''''", bytesAt("x''", "", 0), textAt("''", "", 3))
	tells(t, "'a'x'00'", textAt("'a'", "a", 0), bytesAt("x'00'", "\x00", 3))
	tells(t, "f'0000000000000000'f", floatAt("f'0000000000000000'", 0, 0), nameAt("f", 19))
	tells(t, "x'ab'-7", bytesAt("x'ab'", "\xab", 0), intAt("-7", -7, 5))
	tells(t, "select*", wordAt("select", 0), signAt("*", 6))
	tells(t, "select-5", wordAt("select", 0), intAt("-5", -5, 6))
}

func TestWhatIsNoBlank(t *testing.T) {
	refusesAll(t, "\r", "\v", "\f", "\x00", "\b", "\x1f", "\x7f", "\x85", "\xa0", "\u00a0", "\u2003")
}

// 16.1: words and names

func TestWords(t *testing.T) {
	for _, s := range allWords() {
		tells(t, s, wordAt(s, 0))
		tells(t, " "+s+"\n", wordAt(s, 1))
		tells(t, s+" "+s, wordAt(s, 0), wordAt(s, len(s)+1))
		for _, behind := range []string{"z", "q", "0", "9", "_", "_a", "0_"} {
			tells(t, s+behind, nameAt(s+behind, 0))
		}
		tells(t, "z"+s, nameAt("z"+s, 0))
		tells(t, s+s, nameAt(s+s, 0))
	}
}

func TestWordsWithoutTheirLastLetter(t *testing.T) {
	for _, s := range allWords() {
		short := s[:len(s)-1]
		if short == "int" {
			// Of into.
			tells(t, short, wordAt(short, 0))
			continue
		}
		tells(t, short, nameAt(short, 0))
	}
}

func TestWordsWithGreatLetters(t *testing.T) {
	for _, s := range allWords() {
		great := strings.ToUpper(s)
		refuses(t, great, 0)
		for i := range s {
			refuses(t, s[:i]+great[i:i+1]+s[i+1:], i)
		}
	}
}

func TestOtherWordsAreNames(t *testing.T) {
	for _, s := range []string{"or", "begin", "integer", "string", "varchar", "order", "by", "as", "x", "f", "insertinto", "not_null", "real", "blob", "foreign", "constraint"} {
		tells(t, s, nameAt(s, 0))
	}
}

func TestNames(t *testing.T) {
	for c := byte('a'); c <= 'z'; c++ {
		s := string([]byte{c})
		tells(t, s, nameAt(s, 0))
		tells(t, "a"+s+"_", nameAt("a"+s+"_", 0))
		tells(t, s+"0", nameAt(s+"0", 0))
	}
	for c := byte('0'); c <= '9'; c++ {
		s := "b" + string([]byte{c})
		tells(t, s, nameAt(s, 0))
	}
	tells(t, "a_9", nameAt("a_9", 0))
	tells(t, "a__", nameAt("a__", 0))
	refusesAll(t, "_", "_a", "__", "A", "Z", "\"a\"", "`a`", "[a]", "\u00e9", "\u00df")
	for s, at := range map[string]int{"aA": 1, "a.b": 1, "ab\u00e9": 2, "a$": 1, "a\x00": 1, "a@b": 1, "a[": 1, "a`": 1, "a{": 1, "a/b": 1, "a:b": 1} {
		refuses(t, s, at)
	}
}

func TestNamesOfAnyLength(t *testing.T) {
	for n := 1; n <= api.MaxSql-12; n++ {
		for _, s := range []string{strings.Repeat("n", n), "a" + strings.Repeat("0", n-1), "x" + strings.Repeat("_", n-1), strings.Repeat("b", n-1) + "x"} {
			if n <= 16 {
				tells(t, s, nameAt(s, 0))
				tells(t, s+" ''", nameAt(s, 0), textAt("''", "", n+1))
			} else {
				refuses(t, s, 0)
				refuses(t, " "+s+" a", 1)
				refuses(t, "a 'b' "+s, 6)
			}
		}
	}
	refuses(t, "selectinsertvalue", 0)
	tells(t, "selectinsertvalu", nameAt("selectinsertvalu", 0))
}

// 16.1: x and f

func TestLettersWithAQuoteBehind(t *testing.T) {
	tells(t, "x", nameAt("x", 0))
	tells(t, "f", nameAt("f", 0))
	tells(t, "x f", nameAt("x", 0), nameAt("f", 2))
	tells(t, "x 'a'", nameAt("x", 0), textAt("'a'", "a", 2))
	tells(t, "f\n'a'", nameAt("f", 0), textAt("'a'", "a", 2))
	tells(t, "x''", bytesAt("x''", "", 0))
	tells(t, "xx''", nameAt("xx", 0), textAt("''", "", 2))
	tells(t, "ff'a'", nameAt("ff", 0), textAt("'a'", "a", 2))
	tells(t, "xf''", nameAt("xf", 0), textAt("''", "", 2))
	tells(t, "x0''", nameAt("x0", 0), textAt("''", "", 2))
	tells(t, "a_x'00'", nameAt("a_x", 0), textAt("'00'", "00", 3))
	tells(t, "ax'0'", nameAt("ax", 0), textAt("'0'", "0", 2))
	tells(t, "if'0'", nameAt("if", 0), textAt("'0'", "0", 2))
	for _, c := range []string{"a", "b", "e", "g", "n", "w", "y", "z"} {
		tells(t, c+"'00'", nameAt(c, 0), textAt("'00'", "00", 1))
	}
	refusesAll(t, "x'a'", "f'a'", "f''", "x'", "f'")
	refuses(t, "X'00'", 0)
	refuses(t, "F'3ff0000000000000'", 0)
}

// 16.1: ints

func TestInts(t *testing.T) {
	for s, n := range map[string]int64{
		"0": 0, "1": 1, "9": 9, "10": 10, "-1": -1, "-9": -9, "-10": -10, "100": 100, "-100": -100, "1234567890": 1234567890,
		"9223372036854775807": math.MaxInt64, "9223372036854775806": math.MaxInt64 - 1, "1000000000000000000": 1000000000000000000,
		"-9223372036854775808": math.MinInt64, "-9223372036854775807": math.MinInt64 + 1, "-1000000000000000000": -1000000000000000000,
	} {
		tells(t, s, intAt(s, n, 0))
		tells(t, " "+s+"\t", intAt(s, n, 1))
		tells(t, "a="+s+",", nameAt("a", 0), signAt("=", 1), intAt(s, n, 2), signAt(",", 2+len(s)))
		tells(t, s+"'a'", intAt(s, n, 0), textAt("'a'", "a", len(s)))
	}
}

func TestIntsThatMayNotBe(t *testing.T) {
	refusesAll(t, "-", "--", "--5", "-0", "00", "01", "-00", "-01", "007", "-007", "000000000000000000000000000001",
		"9223372036854775808", "-9223372036854775809", "9223372036854775810", "10000000000000000000", "-10000000000000000000",
		"18446744073709551615", "18446744073709551616", "18446744073709551617", "-18446744073709551615", strings.Repeat("9", 100), "-"+strings.Repeat("9", 100),
		"-a", "-'a'", "-x'00'", "-_", "-(", "-+5", "-A")
}

func TestDigitsWithLettersBehind(t *testing.T) {
	refusesAll(t, "5a", "5z", "5_", "5x", "5f", "-5a", "-5_", "0a", "0_", "0x10", "5e3", "1_000", "5x'00'", "5f'3ff0000000000000'", "5select", "5a5", "0b1", "0o7", "12345678901234567890a")
	// Great letters are no letters: the int is one, and what stands behind it begins nothing.
	for s, at := range map[string]int{"5A": 1, "5Z": 1, "5\u00e9": 1, "50.5": 2, "-5E3": 2, "5\x00": 1, "5-": 1, "5--5": 1, "5-a": 1, "5-0": 1, "7/": 1, "7:": 1} {
		refuses(t, s, at)
	}
}

// 16.1: texts

func TestTexts(t *testing.T) {
	for s, v := range map[string]string{
		"''": "", "'a'": "a", "' '": " ", "'~'": "~", "'abc'": "abc", "'A'": "A", "'\"'": "\"", "'\\'": "\\", "'select'": "select", "'-5'": "-5", "'(),;'": "(),;",
		"''''": "'", "''''''": "''", "'''a'": "'a", "'a'''": "a'", "'a''b'": "a'b", "'''a''b'''": "'a'b'", "'a''''b'": "a''b", "' '' '": " ' ", "'x''00'": "x'00",
	} {
		tells(t, s, textAt(s, v, 0))
		tells(t, "\n"+s+" ", textAt(s, v, 1))
		tells(t, "a"+s+"b", nameAt("a", 0), textAt(s, v, 1), nameAt("b", 1+len(s)))
		tells(t, s+" "+s, textAt(s, v, 0), textAt(s, v, len(s)+1))
		refuses(t, s+"'", 0)
		refuses(t, s[:len(s)-1], 0)
	}
}

func TestTextsWithoutAnEnd(t *testing.T) {
	for _, s := range []string{"'", "'a", "'''", "'a''", "'''''", "'a''b", "'a b", "'a''\x01"} {
		refuses(t, s, 0)
		refuses(t, s+" ", 0)
		refuses(t, "b "+s, 2)
		refuses(t, "b "+s+" c", 2)
	}
	refuses(t, "''a'", 3)
	refuses(t, "'a'b'", 4)
	refuses(t, "'a' '", 4)
}

func TestBytesOfTexts(t *testing.T) {
	for c := range 256 {
		b := string([]byte{byte(c)})
		for _, s := range []string{"'" + b + "'", "'a" + b + "'", "'" + b + "a'", "'a''" + b + "a'"} {
			switch {
			case c == '\'':
				continue
			case c >= 32 && c <= 126:
				tells(t, s, textAt(s, strings.ReplaceAll(s[1:len(s)-1], "''", "'"), 0))
			default:
				refuses(t, s, 0)
				refuses(t, "a ("+s, 3)
			}
		}
	}
}

func TestTextsOfAnyLength(t *testing.T) {
	for n := range 150 {
		for _, c := range []string{"t", " ", "''"} {
			s := "'" + strings.Repeat(c, n) + "'"
			if n <= 40 {
				tells(t, s, textAt(s, strings.Repeat(c[:1], n), 0))
				tells(t, "a"+s, nameAt("a", 0), textAt(s, strings.Repeat(c[:1], n), 1))
			} else {
				refuses(t, s, 0)
				refuses(t, "a"+s, 1)
				refuses(t, "a "+s+" b", 2)
			}
		}
	}
	refuses(t, "'''"+strings.Repeat("t", api.MaxText)+"'", 0)
	refuses(t, "'"+strings.Repeat("t", api.MaxText)+"'''", 0)
}

// 16.1: bytes

func TestBytes(t *testing.T) {
	for s, v := range map[string]string{
		"x''": "", "x'00'": "\x00", "x'ff'": "\xff", "x'0f'": "\x0f", "x'f0'": "\xf0", "x'27'": "'", "x'00ff'": "\x00\xff",
		"x'0123456789abcdef'": "\x01\x23\x45\x67\x89\xab\xcd\xef", "x'6162'": "ab",
	} {
		tells(t, s, bytesAt(s, v, 0))
		tells(t, " "+s+" a", bytesAt(s, v, 1), nameAt("a", len(s)+2))
		tells(t, "("+s+")", signAt("(", 0), bytesAt(s, v, 1), signAt(")", 1+len(s)))
		refuses(t, s[:len(s)-1], 0)
		refuses(t, s+"'", len(s))
	}
}

func TestEachByteInDigits(t *testing.T) {
	const digits = "0123456789abcdef"
	for c := range 256 {
		s := "x'" + digits[c>>4:c>>4+1] + digits[c&15:c&15+1] + "'"
		tells(t, s, bytesAt(s, string([]byte{byte(c)}), 0))
		b := string([]byte{byte(c)})
		if strings.Contains(digits, b) || b == "'" {
			continue
		}
		refuses(t, "x'0"+b+"'", 0)
		refuses(t, "x'"+b+"0'", 0)
		refuses(t, "f'000000000000000"+b+"'", 0)
		refuses(t, "f'"+b+"000000000000000'", 0)
	}
}

func TestBytesThatMayNotBe(t *testing.T) {
	refusesAll(t, "x'0'", "x'000'", "x'0g'", "x'g0'", "x'0A'", "x'A0'", "x'FF'", "x'0_'", "x'-1'", "x'0 0'", "x' '", "x'0x00'", "x'00\x00'", "x'\u00e9'", "x'0''", "x'0''0'")
	refuses(t, "x'", 0)
	refuses(t, "x'0", 0)
	refuses(t, "x'00", 0)
	refuses(t, "a x'00", 2)
	refuses(t, "a x'00 ", 2)
}

func TestBytesOfAnyLength(t *testing.T) {
	for n := range 150 {
		s := "x'" + strings.Repeat("0", n) + "'"
		if n%2 == 0 && n <= 80 {
			tells(t, s, bytesAt(s, strings.Repeat("\x00", n/2), 0))
		} else {
			refuses(t, s, 0)
			refuses(t, "5 "+s+" 5", 2)
		}
	}
}

// 16.1: floats

func TestFloats(t *testing.T) {
	const nan = 0x7ff8000000000000
	for s, f := range map[string]uint64{
		"3ff0000000000000": 0x3ff0000000000000, "bff0000000000000": 0xbff0000000000000, "0000000000000000": 0, "8000000000000000": 0,
		"0000000000000001": 1, "8000000000000001": 1<<63 | 1, "7ff0000000000000": 0x7ff << 52, "fff0000000000000": 0xfff << 52,
		"7fefffffffffffff": 0x7fefffffffffffff, "ffefffffffffffff": 0xffefffffffffffff, "0123456789abcdef": 0x0123456789abcdef, "000fffffffffffff": 0x000fffffffffffff,
		"7ff8000000000000": nan, "fff8000000000000": nan, "7ff0000000000001": nan, "fff0000000000001": nan, "7fffffffffffffff": nan, "ffffffffffffffff": nan, "7ff8000000000001": nan,
	} {
		s = "f'" + s + "'"
		tells(t, s, floatAt(s, f, 0))
		tells(t, "a="+s+";", nameAt("a", 0), signAt("=", 1), floatAt(s, f, 2), signAt(";", 21))
		refuses(t, s[:len(s)-1], 0)
		refuses(t, s+"'", 19)
	}
}

func TestFloatsOfAnyLength(t *testing.T) {
	for n := range 100 {
		s := "f'" + strings.Repeat("1", n) + "'"
		if n == 16 {
			tells(t, s, floatAt(s, 0x1111111111111111, 0))
		} else {
			refuses(t, s, 0)
			refuses(t, "5 "+s+" 5", 2)
		}
	}
	refusesAll(t, "f'3FF0000000000000'", "f'3ff000000000000g'", "f'3ff000000000000'", "f'3ff00000000000000'", "f'1.5'", "f'-ff0000000000000'", "f'3ff00000 0000000'", "f'3ff000000000000''")
	refuses(t, "f'3ff0000000000000", 0)
}

// 16.1: signs, and what begins nothing

func TestSigns(t *testing.T) {
	const signs = "(),;=<>+*"
	var all []Token
	for i := range len(signs) {
		s := signs[i : i+1]
		tells(t, s, signAt(s, 0))
		tells(t, s+s, signAt(s, 0), signAt(s, 1))
		tells(t, " a"+s+"5", nameAt("a", 1), signAt(s, 2), intAt("5", 5, 3))
		all = append(all, signAt(s, i))
	}
	tells(t, signs, all...)
	tells(t, "<=", signAt("<", 0), signAt("=", 1))
	tells(t, "<>", signAt("<", 0), signAt(">", 1))
}

func TestEachByteThatBeginsNothing(t *testing.T) {
	for c := range 256 {
		b := string([]byte{byte(c)})
		if strings.Contains(" \t\n(),;=<>+*0123456789abcdefghijklmnopqrstuvwxyz", b) {
			if _, _, e := Lex(b); e != api.OK {
				t.Errorf("16.1: Lex(%q): %d", b, e)
			}
			continue
		}
		refuses(t, b, 0)
		refuses(t, "a "+b, 2)
		refuses(t, "a 5 "+b+" b", 4)
		refuses(t, "'' "+b, 3)
	}
}

func TestTheFirstFaultIsTold(t *testing.T) {
	for s, at := range map[string]int{
		"A B": 0, "a B A": 2, "01 A": 0, "A 01": 0, "5a 'b": 0, "'b 5a": 0, "a 'b A": 2, "- 'b": 0, "'\x01' A": 0, "x'0' x'1'": 0, "x'00' f'0'": 6,
		"'a' 'b": 4, "'a'A'": 3, "a 00 00": 2, "aaaaaaaaaaaaaaaaa A": 0, "A aaaaaaaaaaaaaaaaa": 0, "(,-,00": 2,
	} {
		refuses(t, s, at)
	}
	refuses(t, "a "+strings.Repeat("n", 17)+" "+strings.Repeat("n", 17), 2)
	refuses(t, "'"+strings.Repeat("t", 41)+"' A", 0)
	refuses(t, "A '"+strings.Repeat("t", 41)+"'", 0)
}

// 16.1: sizes

func TestSizes(t *testing.T) {
	tells(t, strings.Repeat(" ", 400))
	tells(t, "a"+strings.Repeat(" ", 399), nameAt("a", 0))
	tells(t, strings.Repeat("\n", 399)+"a", nameAt("a", 399))
	refuses(t, strings.Repeat(" ", 399)+"A", 399)
	refuses(t, strings.Repeat("A", 400), 0)
	var all []Token
	for i := range 400 {
		all = append(all, signAt("(", i))
	}
	tells(t, strings.Repeat("(", 400), all...)
}

func TestTooLong(t *testing.T) {
	for _, n := range []int{401, 402, 500, 1 << 16, 1 << 20} {
		// What else is wrong counts less.
		for _, c := range []string{" ", "A", "(", "n", "0", "'", "\x00"} {
			if l, at, e := Lex(strings.Repeat(c, n)); l != nil || at != 0 || e != api.ErrLong {
				t.Errorf("16.1: %d of %q: %+v %d %d", n, c, l, at, e)
			}
		}
		if l, at, e := Lex("a A" + strings.Repeat(" ", n-3)); l != nil || at != 0 || e != api.ErrLong {
			t.Errorf("16.1: a fault in %d bytes: %+v %d %d", n, l, at, e)
		}
	}
}

// The rules of all calls

func TestWhatIsToldIsNew(t *testing.T) {
	const s = "select a, 'b''c', x'00', f'3ff0000000000000', -5 from t"
	was, _, _ := Lex(s)
	other, _, _ := Lex(s)
	if !slices.Equal(was, other) {
		t.Errorf("R5: %+v, then %+v", was, other)
	}
	kept := slices.Clone(was)
	for i := range other {
		other[i] = Token{Kind: 9, Text: "z", V: api.Value{Kind: 9}, At: -1}
	}
	for n := range len(was) {
		_ = append(other[:n], Token{Kind: 8})
	}
	if again, _, _ := Lex(s); !slices.Equal(was, kept) || !slices.Equal(again, kept) {
		t.Errorf("R3: %+v and %+v, not %+v", was, again, kept)
	}
}

// 16.2

func TestWord(t *testing.T) {
	if len(allWords()) != 32 {
		t.Fatal("words:", len(allWords()))
	}
	for _, s := range allWords() {
		if !Word(s) {
			t.Errorf("16.2: Word(%q): false", s)
		}
		for _, other := range []string{s + " ", " " + s, s + "\n", "\t" + s, s + s, s + "_", s + "0", s + "z", "z" + s, s + "\x00", s + ";", "'" + s + "'", strings.ToUpper(s), strings.ToUpper(s[:1]) + s[1:], s[:len(s)-1] + strings.ToUpper(s[len(s)-1:])} {
			if Word(other) {
				t.Errorf("16.2: Word(%q): true", other)
			}
		}
		for n := range len(s) {
			// Of into there is int.
			if want := s[:n] == "int"; Word(s[:n]) != want {
				t.Errorf("16.2: Word(%q): %t", s[:n], !want)
			}
		}
	}
}

func TestWhatIsNoWord(t *testing.T) {
	for _, s := range []string{"", " ", "a", "x", "f", "or", "begin", "commit", "integer", "=", "*", "5", "-5", "''", "\x00", "se lect", "insert into", strings.Repeat("select", 1000)} {
		if Word(s) {
			t.Errorf("16.2: Word(%q): true", s)
		}
	}
}
