package show

import "jointer/api"

func (w *writer) command(c api.Command) {
	s, _ := statementOf(c.Kind)
	w.words(s.words)
	for _, letter := range s.fields {
		w.field(letter, c)
	}
}

// field writes the field of a command with a letter.
func (w *writer) field(letter rune, c api.Command) {
	switch letter {
	case 'Q':
		w.query(c.Query[0])
	case 'T':
		if c.Table != "" {
			w.name(c.Table)
		}
	case 'C':
		w.names([]string{c.Column})
	case 'P':
		w.parts(c)
	case 'R':
		clause(w, "VALUES", c.Rows, w.row)
	case 'W':
		clause(w, "WHERE", c.Where, w.term)
	}
}

// parts writes the columns, keys and references of a table, with commas between all of them.
func (w *writer) parts(c api.Command) {
	writes := each(c.Cols, w.column)
	writes = append(writes, each(c.Keys, w.key)...)
	writes = append(writes, each(c.Refs, w.ref)...)
	w.enclosed(func() {
		list(w, writes, func(write func()) { write() })
	})
}

// each returns what writes the elements of a list, one by one.
func each[T any](l []T, write func(T)) []func() {
	var writes []func()
	for _, x := range l {
		writes = append(writes, func() { write(x) })
	}
	return writes
}

func (w *writer) column(d api.ColumnDef) {
	w.name(d.Name)
	switch d.Type {
	case api.TypeInt:
		w.words("INT")
	case api.TypeBig:
		w.words("BIGINT")
	case api.TypeText:
		w.words("TEXT")
	case api.TypeBool:
		w.words("BOOL")
	}
	if d.HasRange {
		w.enclosed(func() { w.bounds(d) })
	}
	w.wordsIf(d.NotNull, "NOT NULL")
}

// bounds writes the bounds of integers, or the length of texts.
func (w *writer) bounds(d api.ColumnDef) {
	if d.Type == api.TypeInt {
		w.integer(d.Lo)
		w.words("TO")
	}
	w.integer(d.Hi)
}

func (w *writer) key(l []string) {
	w.words("KEY")
	w.names(l)
}

func (w *writer) ref(r api.RefDef) {
	w.words("FOREIGN KEY")
	w.names(r.Cols)
	w.words("REFERENCES")
	w.name(r.Table)
	w.names(r.Keys)
}

// names writes a list of names in parentheses.
func (w *writer) names(l []string) {
	w.enclosed(func() { list(w, l, w.name) })
}

func (w *writer) row(r api.Row) {
	w.enclosed(func() { list(w, r, w.literal) })
}
