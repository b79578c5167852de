package show

import (
	"strings"

	"jointer/api"
	"jointer/lex"
	"jointer/value"
)

// writer writes the tokens of valid trees.
type writer struct {
	forms
	tokens []api.Token
}

func newWriter() *writer {
	return &writer{forms: newForms()}
}

func (w *writer) put(kind api.TokenKind, text string) {
	w.tokens = append(w.tokens, api.Token{Kind: kind, Text: text})
}

// words writes keywords and marks, between which there may be blanks.
func (w *writer) words(l ...string) {
	for _, s := range l {
		for word := range strings.FieldsSeq(s) {
			kind := api.TokenMark
			if lex.IsKeyword(word) {
				kind = api.TokenKeyword
			}
			w.put(kind, word)
		}
	}
}

// wordsIf writes words where something is so.
func (w *writer) wordsIf(so bool, l ...string) {
	if so {
		w.words(l...)
	}
}

func (w *writer) name(s string) {
	w.put(api.TokenName, s)
}

// literal writes a value. An integer below 0 is the mark - and a number.
func (w *writer) literal(v api.Value) {
	printed, _ := value.Print(v)
	switch v.Kind {
	case api.KindText:
		w.put(api.TokenText, v.Text)
	case api.KindInt:
		digits, negative := strings.CutPrefix(printed, "-")
		w.wordsIf(negative, "-")
		w.put(api.TokenNumber, digits)
	default:
		w.words(printed)
	}
}

func (w *writer) integer(n int64) {
	w.literal(value.Int(n))
}

// list writes the elements of a list, with commas. It stops where the source is too long already: a list of empty rows may have any length.
func list[T any](w *writer, l []T, write func(T)) {
	for i, x := range l {
		if len(w.tokens) > api.MaxSource {
			return
		}
		w.wordsIf(i > 0, ",")
		write(x)
	}
}

// clause writes words and a list, if the list is not empty.
func clause[T any](w *writer, words string, l []T, write func(T)) {
	if len(l) > 0 {
		w.words(words)
		list(w, l, write)
	}
}

// enclosed writes something in parentheses.
func (w *writer) enclosed(write func()) {
	w.words("(")
	write()
	w.words(")")
}

// perhapsEnclosed writes something, in parentheses if they are needed.
func perhapsEnclosed[T any](w *writer, needed bool, x T, write func(T)) {
	if needed {
		w.enclosed(func() { write(x) })
		return
	}
	write(x)
}

func (w *writer) term(t api.Term) {
	f, _ := w.of(t)
	rest := t.Kids
	for word := range strings.FieldsSeq(f.shape) {
		switch {
		case asked(word) > 0:
			w.kid(t.Op, rest[0], asked(word))
			rest = rest[1:]
		case 'a' <= word[0] && word[0] <= 'z':
			w.part(word, t, rest)
		default:
			w.words(word)
		}
	}
}

// kid writes a kid of an operator at a place that asks for a level.
func (w *writer) kid(op api.Op, t api.Term, level int) {
	f, _ := w.of(t)
	unsigned := isInteger(t) && t.V.Int >= 0
	// The mark - of an OpNeg would be the sign of a number that follows.
	perhapsEnclosed(w, f.level < level || op == api.OpNeg && unsigned, t, w.term)
}

// part writes what belongs at a word of the shape of a term, of whose kids some are left.
func (w *writer) part(word string, t api.Term, rest []api.Term) {
	switch word {
	case "value":
		w.literal(t.V)
	case "name":
		if t.Table != "" {
			w.name(t.Table)
			w.words(".")
		}
		w.name(t.Name)
	case "distinct":
		w.wordsIf(t.Distinct, "DISTINCT")
	case "query":
		w.query(t.Sub[0])
	case "more":
		clause(w, ",", rest, w.term)
	case "cases":
		w.cases(rest)
	}
}

// cases writes the terms that follow the first case of a CASE.
func (w *writer) cases(rest []api.Term) {
	for ; len(rest) >= 2; rest = rest[2:] {
		w.words("WHEN")
		w.term(rest[0])
		w.words("THEN")
		w.term(rest[1])
	}
	clause(w, "ELSE", rest, w.term)
}

func (w *writer) query(q api.Query) {
	if q.Kind == api.QuerySelect {
		w.selection(q)
	} else {
		w.operation(q)
	}
	clause(w, "ORDER BY", q.Order, w.order)
	if q.HasLimit {
		w.words("LIMIT")
		w.integer(int64(q.Limit))
	}
	if q.Offset != 0 {
		w.words("OFFSET")
		w.integer(int64(q.Offset))
	}
}

func (w *writer) selection(q api.Query) {
	w.words("SELECT")
	w.wordsIf(q.Distinct, "DISTINCT")
	list(w, q.Items, w.item)
	clause(w, "FROM", q.From, w.source)
	clause(w, "WHERE", q.Where, w.term)
	clause(w, "GROUP BY", q.Group, w.term)
	clause(w, "HAVING", q.Having, w.term)
}

func (w *writer) operation(q api.Query) {
	s, _ := setOf(q.Kind)
	perhapsEnclosed(w, enclosesKid(q, 0), q.Kids[0], w.query)
	w.words(s.word)
	w.wordsIf(q.All, "ALL")
	perhapsEnclosed(w, enclosesKid(q, 1), q.Kids[1], w.query)
}

func (w *writer) order(o api.Order) {
	if o.N > 0 {
		w.integer(int64(o.N))
	} else {
		w.name(o.Name)
	}
	w.wordsIf(o.Desc, "DESC")
}

func (w *writer) item(i api.Item) {
	if !i.Star {
		w.term(i.Term)
		w.as(i.As)
		return
	}
	if i.Table != "" {
		w.name(i.Table)
		w.words(".")
	}
	w.words("*")
}

// as writes the name that is given to an item or a source, if there is one.
func (w *writer) as(name string) {
	if name != "" {
		w.words("AS")
		w.name(name)
	}
}

func (w *writer) source(s api.Source) {
	switch s.Kind {
	case api.SourceTable:
		w.name(s.Name)
	case api.SourceQuery:
		w.enclosed(func() { w.query(s.Sub[0]) })
	case api.SourceJoin:
		w.source(s.Kids[0])
		w.words(joinWords(s.Join), "JOIN")
		w.source(s.Kids[1])
		clause(w, "ON", s.On, w.term)
	}
	w.as(s.As)
}

// joinWords returns what stands before JOIN.
func joinWords(kind api.JoinKind) string {
	switch kind {
	case api.JoinCross:
		return "CROSS"
	case api.JoinLeft:
		return "LEFT"
	case api.JoinRight:
		return "RIGHT"
	case api.JoinFull:
		return "FULL"
	}
	return ""
}
