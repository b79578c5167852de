package lex_test

import (
	"strings"
	"testing"

	"jointer/lex"
)

// P2.2

func TestNames(t *testing.T) {
	l := []string{"a", "z", "_", "__", "_1", "a1", "t_2", "x0_9", "zzz", "selec", "selects", "_select", "select_", "in1", "number", "name", strings.Repeat("a", 20), "a" + strings.Repeat("9", 19), strings.Repeat("_", 20)}
	for _, s := range l {
		if !lex.IsName(s) || lex.IsKeyword(s) {
			t.Errorf("%q is a name", s)
		}
	}
}

func TestNoNames(t *testing.T) {
	l := []string{"", " ", "a ", " a", "a b", "a.b", "a-b", "a'", "'a'", "1", "1a", "9", "0_", "A", "aB", "Zz", "T", "a\n", "a\x00", "é", "aé", "\xff", "a*", "ſelect", "ınt", "\u212Aey", strings.Repeat("a", 21), strings.Repeat("a", 1<<20)}
	for _, s := range l {
		if lex.IsName(s) || lex.IsKeyword(s) {
			t.Errorf("%q is no name and no keyword", s)
		}
	}
}

func TestBytesOfNames(t *testing.T) {
	for _, b := range allBytes() {
		small := b >= "a" && b <= "z" || b == "_"
		if lex.IsName(b) != small || lex.IsName(b+"1") != small || lex.IsName(b+"_") != small {
			t.Errorf("a name begins with %q: %v", b, !small)
		}
		inside := small || b >= "0" && b <= "9"
		if lex.IsName("x"+b) != inside || lex.IsName("x"+b+"x") != inside || lex.IsName("_"+b) != inside {
			t.Errorf("a name has %q: %v", b, !inside)
		}
	}
}

func TestKeywords(t *testing.T) {
	for _, s := range keywords {
		if !lex.IsKeyword(s) || lex.IsName(s) || lex.IsName(strings.ToLower(s)) {
			t.Errorf("%q is a keyword", s)
		}
		for _, other := range []string{strings.ToLower(s), s[:1] + strings.ToLower(s[1:]), " " + s, s + " ", s + "\n", s + "_", "_" + s, s + ",", s + s, s + " " + s, s + "\x00"} {
			if lex.IsKeyword(other) {
				t.Errorf("%q is no keyword", other)
			}
		}
	}
	for _, s := range []string{"", " ", "\t", "\n", "A", "NAME", "COLUMN", "DATE", "ALL ANALYZE", "ALL, ANALYZE", "ONLY", "USING", "NATURAL", "SET", "UPDATE", "WITH", "ANY", "SOME", "PRIMARY", "UNIQUE", "CHECK", "BOOLEAN", "INTEGER", "NULLS", "IF", "ſELECT", "(", "<>"} {
		if lex.IsKeyword(s) {
			t.Errorf("%q is no keyword", s)
		}
	}
}

func TestNamesAreTheTextsOfNames(t *testing.T) {
	l := words([]string{"a", "S", "_", "1", " ", "in", "ON", "-", "é"}, 4)
	for _, s := range l {
		got, _, _ := lex.Tokens(s)
		is := len(got) == 1 && got[0] == name(s)
		if lex.IsName(s) != is {
			t.Errorf("IsName(%q) is %v", s, !is)
		}
		is = len(got) == 1 && got[0] == keyword(s)
		if lex.IsKeyword(s) != is {
			t.Errorf("IsKeyword(%q) is %v", s, !is)
		}
	}
}
