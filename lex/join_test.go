package lex_test

import (
	"slices"
	"strings"
	"testing"

	"jointer/api"
	"jointer/lex"
)

// checkJoin checks the source with some tokens, and that it has these tokens.
func checkJoin(t *testing.T, want string, l ...api.Token) {
	t.Helper()
	s, e := lex.Join(l)
	if s != want || e != api.OK {
		t.Errorf("Join(%v) is %.60q, %v; want %.60q", l, s, e, want)
	}
	checkTokensOf(t, s, l)
}

// checkTokensOf checks that a source has some tokens, but for their places.
func checkTokensOf(t *testing.T, source string, l []api.Token) {
	t.Helper()
	got, _, e := lex.Tokens(source)
	same := slices.EqualFunc(got, l, func(a, b api.Token) bool { return a.Kind == b.Kind && a.Text == b.Text })
	if !same || e != api.OK {
		t.Errorf("the tokens of %.60q are %v, %v; want %v", source, got, e, l)
	}
}

// P2.3

func TestJoinOfTheDocument(t *testing.T) {
	checkJoin(t, "SELECT 'it''s'", keyword("SELECT"), text("it's"))
	l, _, _ := lex.Tokens("count( a . b ) , c")
	checkJoin(t, "COUNT (a.b), c", l...)
}

func TestJoin(t *testing.T) {
	checkJoin(t, "")
	for source, want := range map[string]string{
		"select*from T":              "SELECT * FROM t",
		"(a,b) , ( c ) ;":            "(a, b), (c);",
		"a .b . c":                   "a.b.c",
		"- - 1 - -1":                 "- - 1 - - 1",
		"( - - 1 )":                  "(- - 1)",
		"< > <> > =":                 "< > <> > =",
		"( ( ) )":                    "(())",
		") (":                        ") (",
		". . . ( . ) ,":              "...(.),",
		", , ; ;":                    ",,;;",
		"1 . 5":                      "1.5",
		"''''  ''--\n'a'":            "'''' '' 'a'",
		"'a' . 'b'":                  "'a'.'b'",
		"a||b||''":                   "a || b || ''",
		"007":                        "007",
		"x%y/z*(1+2)":                "x % y / z * (1 + 2)",
		"insert into t values(1,-2)": "INSERT INTO t VALUES (1, - 2)",
	} {
		l, _, _ := lex.Tokens(source)
		checkJoin(t, want, l...)
	}
}

func TestTextsLikeMarks(t *testing.T) {
	for _, s := range []string{",", ")", ".", ";", "(", "SELECT", "a", "1", ""} {
		checkJoin(t, "a '"+s+"' b", name("a"), text(s), name("b"))
	}
}

func TestPlacesDoNotCount(t *testing.T) {
	for _, pos := range []int{0, 1, -1, 4001, -1 << 63, 1<<63 - 1} {
		checkJoin(t, "NOT a", at(pos, keyword("NOT")), at(pos, name("a")))
		for _, x := range []api.Token{number("12"), text("x"), sign("<=")} {
			if _, e := lex.Join([]api.Token{at(pos, x)}); e != api.OK {
				t.Errorf("Join of %v at %d is %v", x, pos, e)
			}
		}
	}
}

func TestBlanksBetweenAllPairs(t *testing.T) {
	l := []api.Token{keyword("BY"), name("x"), name("_9"), number("0"), number("42"), text(""), text("it's"), text("("), text(".")}
	for _, s := range allMarks {
		l = append(l, sign(s))
	}
	written := map[api.Token]string{text(""): "''", text("it's"): "'it''s'", text("("): "'('", text("."): "'.'"}
	for _, a := range l {
		for _, b := range l {
			blank := " "
			if a == sign("(") || a == sign(".") || b == sign(",") || b == sign(")") || b == sign(".") || b == sign(";") {
				blank = ""
			}
			left, right := a.Text, b.Text
			if a.Kind == api.TokenText {
				left = written[a]
			}
			if b.Kind == api.TokenText {
				right = written[b]
			}
			checkJoin(t, left+blank+right, a, b)
			for _, c := range l {
				s, _ := lex.Join([]api.Token{a, b, c})
				checkTokensOf(t, s, []api.Token{a, b, c})
			}
		}
	}
}

func TestJoinOfAllTokens(t *testing.T) {
	for _, s := range keywords {
		checkJoin(t, s, keyword(s))
	}
	for _, s := range allMarks {
		checkJoin(t, s, sign(s))
	}
	for _, s := range append(allBytes(), "", "'''", "--", "SELECT", strings.Repeat("'", 100), strings.Repeat("\xff", 100)) {
		checkJoin(t, "'"+strings.ReplaceAll(s, "'", "''")+"'", text(s))
	}
	for _, s := range []string{"0", "00", "9223372036854775808", strings.Repeat("0", 3981) + "9223372036854775808", strings.Repeat("0", 4000)} {
		checkJoin(t, s, number(s))
	}
	for _, s := range []string{"a", "_", strings.Repeat("z", 20)} {
		checkJoin(t, s, name(s))
	}
}

func TestJoinErrors(t *testing.T) {
	l := []api.Token{
		{}, {Text: "a"}, {Kind: 6, Text: "a"}, {Kind: 255, Text: "("},
		keyword(""), keyword("select"), keyword("Select"), keyword("a"), keyword("NAME"), keyword(" ALL"), keyword("ALL ANALYZE"), keyword("("), keyword("1"),
		name(""), name("A"), name("select"), name("SELECT"), name("1"), name("1a"), name("a b"), name("a.b"), name(" a"), name("a\n"), name("é"), name(strings.Repeat("a", 21)), name("a--"),
		number(""), number("-1"), number("+1"), number("1a"), number("1_0"), number("0x1"), number("1.0"), number(" 1"), number("1 "), number("a"), number("\u0661"), number("9223372036854775809"), number("18446744073709551616"), number(strings.Repeat("9", 4000)), number(strings.Repeat("0", 4001)), number(strings.Repeat("0", 1<<20) + "1"),
		text(strings.Repeat("x", 101)), text(strings.Repeat("'", 101)), text(strings.Repeat("x", 1<<20)),
		sign(""), sign(" "), sign("!="), sign("|"), sign("--"), sign("'"), sign("=="), sign("=<"), sign("<> "), sign("<> <="), sign("()"), sign("?"), sign("a"), sign("BY"), sign("1"),
	}
	for _, x := range l {
		for _, l := range [][]api.Token{{x}, {name("a"), x}, {x, name("a")}, {name("a"), at(7, x), sign("(")}} {
			if s, e := lex.Join(l); s != "" || e != api.ErrArg {
				t.Errorf("Join of kind %d, text %.30q of %d bytes: %.30q, %v", x.Kind, x.Text, len(x.Text), s, e)
			}
		}
	}
}

func TestJoinTakesWhatTokensReturns(t *testing.T) {
	l := words([]string{"a", "A", "in", "IN", "_", "1", "<", "=", ">", "|", "-", ".", ",", " ", "\n"}, 3)
	for _, s := range l {
		got, _, _ := lex.Tokens(s)
		for _, x := range []api.Token{keyword(s), name(s), number(s), sign(s)} {
			want := api.ErrArg
			if len(got) == 1 && got[0] == x {
				want = api.OK
			}
			if _, e := lex.Join([]api.Token{x}); e != want {
				t.Errorf("Join of kind %d, text %q is %v", x.Kind, s, e)
			}
		}
	}
}

func TestLongJoins(t *testing.T) {
	names := slices.Repeat([]api.Token{name("a")}, 2001)
	if s, e := lex.Join(names[:2000]); s != strings.TrimSuffix(strings.Repeat("a ", 2000), " ") || e != api.OK {
		t.Errorf("Join of 2000 names: %d bytes, %v", len(s), e)
	}
	checkJoin(t, strings.Repeat("(", 4000), slices.Repeat([]api.Token{sign("(")}, 4000)...)
	checkJoin(t, strings.Repeat("0", 3999)+")", number(strings.Repeat("0", 3999)), sign(")"))
	for _, l := range [][]api.Token{
		names,
		slices.Repeat([]api.Token{sign("(")}, 4001),
		{number(strings.Repeat("0", 4000)), sign(")")},
		{number(strings.Repeat("0", 3999)), sign("<")},
		slices.Repeat([]api.Token{text(strings.Repeat("'", 100))}, 20),
		slices.Repeat([]api.Token{sign("(")}, 1<<20),
	} {
		if s, e := lex.Join(l); s != "" || e != api.ErrLimit {
			t.Errorf("Join of %d tokens: %d bytes, %v", len(l), len(s), e)
		}
		if s, e := lex.Join(append(slices.Clone(l), sign("!="))); s != "" || e != api.ErrArg {
			t.Errorf("Join of %d tokens and no token: %d bytes, %v", len(l), len(s), e)
		}
	}
}

func TestJoinChangesNothing(t *testing.T) {
	l := []api.Token{at(5, keyword("SELECT")), at(-3, text("it's")), at(9, sign("."))}
	before := slices.Clone(l)
	if lex.Join(l); !slices.Equal(l, before) {
		t.Errorf("Join has changed its argument to %v", l)
	}
}
