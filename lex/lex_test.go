package lex_test

import (
	"slices"
	"strings"
	"testing"

	"jointer/api"
	"jointer/lex"
)

func keyword(s string) api.Token { return api.Token{Kind: api.TokenKeyword, Text: s} }
func name(s string) api.Token    { return api.Token{Kind: api.TokenName, Text: s} }
func number(s string) api.Token  { return api.Token{Kind: api.TokenNumber, Text: s} }
func text(s string) api.Token    { return api.Token{Kind: api.TokenText, Text: s} }
func sign(s string) api.Token    { return api.Token{Kind: api.TokenMark, Text: s} }

func at(pos int, t api.Token) api.Token {
	t.Pos = pos
	return t
}

// checkTokens checks the tokens of a source, with their places.
func checkTokens(t *testing.T, source string, want ...api.Token) {
	t.Helper()
	if l, place, e := lex.Tokens(source); !slices.Equal(l, want) || place != 0 || e != api.OK {
		t.Errorf("Tokens(%.60q) is %v, %d, %v; want %v", source, l, place, e, want)
	}
}

// checkError checks the error of a source, and its place.
func checkError(t *testing.T, source string, place int, err api.Errno) {
	t.Helper()
	if l, p, e := lex.Tokens(source); len(l) != 0 || p != place || e != err {
		t.Errorf("Tokens(%.60q) of %d bytes is %v, %d, %v; want %d, %v", source, len(source), l, p, e, place, err)
	}
}

// P2.1

func TestTokensOfTheDocument(t *testing.T) {
	checkTokens(t, "Select a.b1<>'x''y'--z", keyword("SELECT"), at(7, name("a")), at(8, sign(".")), at(9, name("b1")), at(11, sign("<>")), at(13, text("x'y")))
	checkError(t, "1a", 0, api.ErrNext)
	checkError(t, "a ?", 2, api.ErrChar)
	checkError(t, "'ab", 0, api.ErrOpen)
	checkError(t, "a!=b", 1, api.ErrChar)
	checkTokens(t, "- -1", sign("-"), at(2, sign("-")), at(3, number("1")))
	checkTokens(t, "--1")
}

func TestAQuery(t *testing.T) {
	checkTokens(t, "SELECT COUNT(*) FROM t\r\n\tWHERE t.a>=-10 -- not 'b\n;",
		keyword("SELECT"), at(7, keyword("COUNT")), at(12, sign("(")), at(13, sign("*")), at(14, sign(")")), at(16, keyword("FROM")), at(21, name("t")),
		at(25, keyword("WHERE")), at(31, name("t")), at(32, sign(".")), at(33, name("a")), at(34, sign(">=")), at(36, sign("-")), at(37, number("10")), at(50, sign(";")))
}

func TestSourcesWithoutTokens(t *testing.T) {
	for _, source := range []string{"", " ", " \t\n\r", "--", "--\n", "---", "-- 'a", "--\x00\xff?\r!", "\n--a\n --b\n\n", strings.Repeat(" ", 4000), "--" + strings.Repeat("?", 3998), strings.Repeat("--\n", 1333)} {
		checkTokens(t, source)
	}
}

func TestWords(t *testing.T) {
	for _, s := range keywords {
		for _, source := range []string{s, strings.ToLower(s), s[:1] + strings.ToLower(s[1:]), strings.ToLower(s[:1]) + s[1:]} {
			checkTokens(t, source, keyword(s))
		}
		for _, source := range []string{s + "_", "_" + s, s + "1", s + "Q"} {
			checkTokens(t, source, name(strings.ToLower(source)))
		}
		checkTokens(t, s+"(", keyword(s), at(len(s), sign("(")))
	}
	for source, want := range map[string]string{"a": "a", "A": "a", "Z9": "z9", "_": "_", "__1": "__1", "aBcXyZ_019": "abcxyz_019", "selec": "selec", "outers": "outers", "true_": "true_", "count1": "count1"} {
		checkTokens(t, source, name(want))
	}
	checkTokens(t, strings.Repeat("Z", 20), name(strings.Repeat("z", 20)))
	checkError(t, strings.Repeat("Z", 21), 0, api.ErrName)
	checkError(t, " "+strings.Repeat("_", 21), 1, api.ErrName)
	checkError(t, "a."+strings.Repeat("b1", 1000), 2, api.ErrName)
	checkError(t, strings.Repeat("SELECT", 4), 0, api.ErrName)
}

func TestNumbers(t *testing.T) {
	zeros := strings.Repeat("0", 3981)
	for _, s := range []string{"0", "7", "007", "1234567890", "9223372036854775807", "9223372036854775808", zeros + "9223372036854775808", strings.Repeat("0", 4000)} {
		checkTokens(t, s, number(s))
	}
	for _, s := range []string{"9223372036854775809", "9223372036854775810", "10000000000000000000", "18446744073709551615", "18446744073709551616", "18446744073709551617", "27670116110564327424", zeros + "9223372036854775809", strings.Repeat("9", 4000)} {
		checkError(t, s, 0, api.ErrNumber)
	}
	for _, s := range []string{"1_", "1a", "1Z", "0x1", "1e3", "9223372036854775808_", "12SELECT"} {
		checkError(t, s, 0, api.ErrNext)
	}
	checkError(t, "(9223372036854775809a", 1, api.ErrNumber)
	checkTokens(t, "1.2", number("1"), at(1, sign(".")), at(2, number("2")))
	checkTokens(t, "1.a", number("1"), at(1, sign(".")), at(2, name("a")))
	checkTokens(t, "1'a'2", number("1"), at(1, text("a")), at(4, number("2")))
	checkTokens(t, "1--a", number("1"))
}

func TestTexts(t *testing.T) {
	for source, want := range map[string]string{
		"''": "", "''''": "'", "''''''": "''", "'a'": "a", "'it''s'": "it's", "'''a'": "'a", "'a'''": "a'", "'--'": "--", "'A b'": "A b", "'\n\r\t'": "\n\r\t", "'\x00\x80\xff'": "\x00\x80\xff", "'\"\\'": "\"\\", "'SELECT ?'": "SELECT ?",
	} {
		checkTokens(t, source, text(want))
	}
	checkTokens(t, "'a' 'b'", text("a"), at(4, text("b")))
	checkTokens(t, "x'41'", name("x"), at(1, text("41")))
	checkTokens(t, "'41'x", text("41"), at(4, name("x")))
	for _, b := range allBytes() {
		if b != "'" {
			checkTokens(t, "'"+b+"'", text(b))
		}
	}
	for _, source := range []string{"'", "'''", "'''''", "'a", "'a''", "'a--'' \n", "'''a"} {
		checkError(t, source, 0, api.ErrOpen)
	}
	checkError(t, "'a''' '", 6, api.ErrOpen)
}

func TestLongTexts(t *testing.T) {
	x100, q100 := strings.Repeat("x", 100), strings.Repeat("'", 200)
	checkTokens(t, "'"+x100+"'", text(x100))
	checkTokens(t, "'"+q100+"'", text(q100[:100]))
	checkError(t, "a'"+x100+"x'", 1, api.ErrLong)
	checkError(t, "'"+x100+"'''", 0, api.ErrLong)
	checkError(t, "'"+q100+"'''", 0, api.ErrLong)
	checkError(t, "'"+strings.Repeat("x", 3998)+"'", 0, api.ErrLong)
	checkError(t, "'"+x100+"x", 0, api.ErrOpen)
	checkError(t, "'"+x100+"x''", 0, api.ErrOpen)
}

func TestMarks(t *testing.T) {
	for _, s := range allMarks {
		checkTokens(t, s, sign(s))
		checkTokens(t, "a"+s+"1", name("a"), at(1, sign(s)), at(1+len(s), number("1")))
	}
	checkTokens(t, "<<=>", sign("<"), at(1, sign("<=")), at(3, sign(">")))
	checkTokens(t, "<>=", sign("<>"), at(2, sign("=")))
	checkTokens(t, ">>==", sign(">"), at(1, sign(">=")), at(3, sign("=")))
	checkTokens(t, "=<", sign("="), at(1, sign("<")))
	checkTokens(t, "||||", sign("||"), at(2, sign("||")))
	checkTokens(t, "..", sign("."), at(1, sign(".")))
	checkError(t, "|", 0, api.ErrChar)
	checkError(t, "|||", 2, api.ErrChar)
	checkError(t, "| |", 0, api.ErrChar)
	checkError(t, "<!", 1, api.ErrChar)
}

func TestRemarks(t *testing.T) {
	checkTokens(t, "a--b\nc", name("a"), at(5, name("c")))
	checkTokens(t, "a--b\rc", name("a"))
	checkTokens(t, "a--b--\n--\nc", name("a"), at(10, name("c")))
	checkTokens(t, "<--1\n-", sign("<"), at(5, sign("-")))
	checkTokens(t, "a- -b", name("a"), at(1, sign("-")), at(3, sign("-")), at(4, name("b")))
	checkTokens(t, "-\n-", sign("-"), at(2, sign("-")))
	checkTokens(t, "a---b", name("a"))
	checkTokens(t, "'a'--'\n'b'", text("a"), at(7, text("b")))
	checkError(t, "--a\n?", 4, api.ErrChar)
}

func TestEachByte(t *testing.T) {
	begins := map[string]int{}
	for _, b := range allBytes() {
		want, place, e := tokens("a " + b + " b")
		begins[e.Error()]++
		if e != api.OK {
			checkError(t, "a "+b+" b", place, e)
			continue
		}
		checkTokens(t, "a "+b+" b", want...)
	}
	// 52 letters, _, 10 digits, 4 blanks and 13 marks can stand there (a single | is no mark); ' begins a text without an end.
	if begins[api.OK.Error()] != 80 || begins[api.ErrOpen.Error()] != 1 || begins[api.ErrChar.Error()] != 175 {
		t.Errorf("the bytes are told apart as %v", begins)
	}
}

func TestFirstErrorDecides(t *testing.T) {
	checkError(t, "a ? 1a 'b", 2, api.ErrChar)
	checkError(t, "1a ?", 0, api.ErrNext)
	checkError(t, "'?' 99999999999999999999 1a", 4, api.ErrNumber)
	checkError(t, "'a ? 1a", 0, api.ErrOpen)
	checkError(t, "1 "+strings.Repeat("a", 21)+"?", 2, api.ErrName)
}

func TestLongSources(t *testing.T) {
	var want []api.Token
	for i := range 4000 {
		want = append(want, at(i, sign("(")))
	}
	checkTokens(t, strings.Repeat("(", 4000), want...)
	checkError(t, strings.Repeat("(", 3999)+"?", 3999, api.ErrChar)
	for _, source := range []string{strings.Repeat("(", 4001), strings.Repeat(" ", 4001), "?" + strings.Repeat("a", 4000), "'" + strings.Repeat("a", 1<<20)} {
		checkError(t, source, 0, api.ErrLimit)
	}
}

func TestTokensOfAllShortSources(t *testing.T) {
	l := words(strings.Split("a S 0 ' - < > = | . \n _ ? \xc3", " "), 4)
	l = append(l, words([]string{"'", "''", " ", "-", "\n", "1"}, 5)...)
	l = append(l, words([]string{"as", "IN", "t", "_", "1", "9223372036854775808", "(", ".", "*", "--", "\n", "\t", "'x'"}, 4)...)
	for _, source := range l {
		want, place, e := tokens(source)
		got, p, err := lex.Tokens(source)
		if !slices.Equal(got, want) || p != place || err != e {
			t.Fatalf("Tokens(%q) is %v, %d, %v; want %v, %d, %v", source, got, p, err, want, place, e)
		}
	}
}

func TestTokensShareNothing(t *testing.T) {
	l, _, _ := lex.Tokens("a b c")
	l = append(l, name("d"))
	l[0].Text = "z"
	if m, _, _ := lex.Tokens("a b c"); m[0] != name("a") || len(m) != 3 {
		t.Errorf("the tokens are %v after a change of earlier ones", m)
	}
}
