package parse

import (
	"slices"
	"strconv"

	"jointer/api"
)

// fault is an error at a place of the source.
type fault struct {
	api.Errno
	at int
}

// cursor goes through the tokens of a source. The last one, which has no kind, is its end.
type cursor struct {
	tokens []api.Token
	next   int
}

// ahead returns the token that comes n tokens after the next one.
func (c *cursor) ahead(n int) api.Token {
	return c.tokens[min(c.next+n, len(c.tokens)-1)]
}

// token returns the next token.
func (c *cursor) token() api.Token {
	return c.ahead(0)
}

// word returns what the token ahead(n) is if it is a keyword or a mark, and otherwise "": a text may consist of the same bytes.
func (c *cursor) word(n int) string {
	t := c.ahead(n)
	if t.Kind == api.TokenKeyword || t.Kind == api.TokenMark {
		return t.Text
	}
	return ""
}

// fail ends the reading, because of the next token.
func (c *cursor) fail(err api.Errno) {
	panic(fault{err, c.token().Pos})
}

// sees returns whether one of these words comes next.
func (c *cursor) sees(words ...string) bool {
	return slices.Contains(words, c.word(0))
}

// needs goes over words that must come next, one after the other.
func (c *cursor) needs(words ...string) {
	for _, word := range words {
		if !c.sees(word) {
			c.fail(api.ErrSyntax)
		}
		c.next++
	}
}

// takes goes over a word if it comes next, and then over those that must follow it. It returns whether the word came.
func (c *cursor) takes(word string, then ...string) bool {
	if !c.sees(word) {
		return false
	}
	c.next++
	c.needs(then...)
	return true
}

// text goes over a token of a kind that must come next, and returns its text.
func (c *cursor) text(kind api.TokenKind) string {
	t := c.token()
	if t.Kind != kind {
		c.fail(api.ErrSyntax)
	}
	c.next++
	return t.Text
}

func (c *cursor) name() string {
	return c.text(api.TokenName)
}

// number goes over a number that must come next, and returns it with a sign, "" or "-". It must be from lo to hi.
func (c *cursor) number(sign string, lo, hi int64) int64 {
	at := c.next
	n, err := strconv.ParseInt(sign+c.text(api.TokenNumber), 10, 64)
	if err != nil || n < lo || n > hi {
		c.next = at
		c.fail(api.ErrNumber)
	}
	return n
}
