package lex_test

import (
	"math/big"
	"regexp"
	"strings"

	"jointer/api"
)

// The keywords and marks are written out once more here, so that a test fails if the package loses one.
var (
	keywords = strings.Split("ALL, ANALYZE, AND, AS, ASC, AVG, BETWEEN, BIGINT, BOOL, BY, CASE, COALESCE, COUNT, CREATE, CROSS, DELETE, DESC, DISTINCT, DROP, ELSE, END, EXCEPT, EXISTS, EXPLAIN, FALSE, FOREIGN, FROM, FULL, GROUP, HAVING, IN, INDEX, INNER, INSERT, INT, INTERSECT, INTO, IS, JOIN, KEY, LEFT, LENGTH, LIKE, LIMIT, MAX, MIN, NOT, NULL, OFFSET, ON, OR, ORDER, OUTER, REFERENCES, RIGHT, SELECT, SUM, TABLE, TEXT, THEN, TO, TRUE, UNION, VALUES, WHEN, WHERE", ", ")
	allMarks = []string{"<>", "<=", ">=", "||", "(", ")", ",", ".", ";", "*", "+", "-", "/", "%", "=", "<", ">"}
)

var (
	skipped = regexp.MustCompile(`^(?:[ \t\n\r]|--[^\n]*)*`)
	word    = regexp.MustCompile(`^[A-Za-z_][A-Za-z0-9_]*`)
	digits  = regexp.MustCompile(`^[0-9]+`)
	letters = regexp.MustCompile(`^[A-Za-z_]`)
	quoted  = regexp.MustCompile(`^'((?:[^']|'')*)'(?:[^']|$)`) // with what follows, which is no byte '
	mark    = regexp.MustCompile(`^(?:<>|<=|>=|\|\||[(),.;*+\-/%=<>])`)
)

// tokens says what the tokens of a source are, by regular expressions.
func tokens(source string) ([]api.Token, int, api.Errno) {
	if len(source) > 4000 {
		return nil, 0, api.ErrLimit
	}
	var l []api.Token
	for at := len(skipped.FindString(source)); at < len(source); {
		t, n, e := first(source[at:])
		if e != api.OK {
			return nil, at, e
		}
		t.Pos = at
		l = append(l, t)
		at += n
		at += len(skipped.FindString(source[at:]))
	}
	return l, 0, api.OK
}

// first returns the token with which a source begins, and its length there.
func first(source string) (api.Token, int, api.Errno) {
	if s := word.FindString(source); s != "" {
		for _, keyword := range keywords {
			if strings.EqualFold(s, keyword) {
				return api.Token{Kind: api.TokenKeyword, Text: keyword}, len(s), api.OK
			}
		}
		if len(s) > 20 {
			return api.Token{}, 0, api.ErrName
		}
		return api.Token{Kind: api.TokenName, Text: strings.ToLower(s)}, len(s), api.OK
	}
	if s := digits.FindString(source); s != "" {
		n, _ := new(big.Int).SetString(s, 10)
		if n.Cmp(new(big.Int).Lsh(big.NewInt(1), 63)) > 0 {
			return api.Token{}, 0, api.ErrNumber
		}
		if letters.MatchString(source[len(s):]) {
			return api.Token{}, 0, api.ErrNext
		}
		return api.Token{Kind: api.TokenNumber, Text: s}, len(s), api.OK
	}
	if m := quoted.FindStringSubmatch(source); m != nil {
		s := strings.ReplaceAll(m[1], "''", "'")
		if len(s) > 100 {
			return api.Token{}, 0, api.ErrLong
		}
		return api.Token{Kind: api.TokenText, Text: s}, len(m[1]) + 2, api.OK
	}
	if source[0] == '\'' {
		return api.Token{}, 0, api.ErrOpen
	}
	if s := mark.FindString(source); s != "" {
		return api.Token{Kind: api.TokenMark, Text: s}, len(s), api.OK
	}
	return api.Token{}, 0, api.ErrChar
}

// words returns all texts of at most n of some pieces.
func words(pieces []string, n int) []string {
	l := []string{""}
	for from := 0; n > 0; n-- {
		to := len(l)
		for _, w := range l[from:to] {
			for _, piece := range pieces {
				l = append(l, w+piece)
			}
		}
		from = to
	}
	return l
}

// allBytes returns the texts of one byte.
func allBytes() []string {
	var l []string
	for b := range 256 {
		l = append(l, string([]byte{byte(b)}))
	}
	return l
}
