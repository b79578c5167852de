package lex

import (
	"strings"

	"jointer/api"
)

// Join returns a source with these tokens, or an error.
func Join(l []api.Token) (string, api.Errno) {
	for _, t := range l {
		if !isToken(t) {
			return "", api.ErrArg
		}
	}
	var source strings.Builder
	for i, t := range l {
		if i > 0 && apart(l[i-1], t) {
			source.WriteByte(' ')
		}
		source.WriteString(written(t))
		if source.Len() > api.MaxSource {
			return "", api.ErrLimit
		}
	}
	return source.String(), api.OK
}

// isToken returns whether t is a token of some source, whatever its place.
func isToken(t api.Token) bool {
	switch t.Kind {
	case api.TokenKeyword:
		return IsKeyword(t.Text)
	case api.TokenName:
		return IsName(t.Text)
	case api.TokenNumber:
		return len(t.Text) <= api.MaxSource && isNumber(t.Text)
	case api.TokenText:
		return len(t.Text) <= api.MaxText
	case api.TokenMark:
		return listed(t.Text, marks)
	}
	return false
}

// written returns how a token stands in a source.
func written(t api.Token) string {
	if t.Kind == api.TokenText {
		return "'" + strings.ReplaceAll(t.Text, "'", "''") + "'"
	}
	return t.Text
}

// apart returns whether a blank stands between two tokens.
func apart(before, after api.Token) bool {
	return !isMark(before, "( .") && !isMark(after, ", ) . ;")
}

// isMark returns whether a token is one of the marks of a list. A text may consist of the same bytes.
func isMark(t api.Token, list string) bool {
	return t.Kind == api.TokenMark && listed(t.Text, list)
}
