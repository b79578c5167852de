package lex

import (
	"strings"

	"jointer/api"
)

const keywords = `ALL ANALYZE AND AS ASC AVG BETWEEN BIGINT BOOL BY CASE COALESCE COUNT CREATE CROSS
	DELETE DESC DISTINCT DROP ELSE END EXCEPT EXISTS EXPLAIN FALSE FOREIGN FROM FULL GROUP HAVING
	IN INDEX INNER INSERT INT INTERSECT INTO IS JOIN KEY LEFT LENGTH LIKE LIMIT MAX MIN NOT NULL
	OFFSET ON OR ORDER OUTER REFERENCES RIGHT SELECT SUM TABLE TEXT THEN TO TRUE UNION VALUES WHEN WHERE`

// The longer ones come first, so that the first one that stands at a place is the one meant there.
const marks = "<> <= >= || ( ) , . ; * + - / % = < >"

// listed returns whether s is one of the words of a list.
func listed(s, list string) bool {
	for word := range strings.FieldsSeq(list) {
		if word == s {
			return true
		}
	}
	return false
}

// IsKeyword returns whether s is a keyword, in capital letters.
func IsKeyword(s string) bool {
	return listed(s, keywords)
}

// IsName returns whether s is the text of a name.
func IsName(s string) bool {
	if s == "" || len(s) > api.MaxName || classOf(s[0]) == digit {
		return false
	}
	for i := range len(s) {
		switch classOf(s[i]) {
		case small, underscore, digit:
		default:
			return false
		}
	}
	return !IsKeyword(strings.ToUpper(s))
}
