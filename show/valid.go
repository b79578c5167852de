package show

import (
	"math"
	"strings"

	"jointer/api"
	"jointer/lex"
	"jointer/value"
)

// counter goes through a tree and counts its nodes. Each of its methods stops, and returns false, at what is wrong or above MaxNodes: a tree may be far too large to be gone through, or contain itself.
type counter struct {
	forms
	nodes int
}

func newCounter() *counter {
	return &counter{forms: newForms()}
}

// add counts n nodes, and returns whether there may be so many.
func (c *counter) add(n int) bool {
	c.nodes += n
	return c.nodes <= api.MaxNodes
}

// all returns whether each element of a list is valid.
func all[T any](l []T, valid func(T) bool) bool {
	for _, x := range l {
		if !valid(x) {
			return false
		}
	}
	return true
}

// isNameOrNone returns whether s is a name, or empty.
func isNameOrNone(s string) bool {
	return s == "" || lex.IsName(s)
}

// labels are what a term has besides its operator, its kids and its queries.
type labels struct {
	v           api.Value
	table, name string
	agg         api.AggFn
	distinct    bool
}

func labelsOf(t api.Term) labels {
	return labels{t.V, t.Table, t.Name, t.Agg, t.Distinct}
}

// isZero returns whether a term has nothing at all.
func isZero(t api.Term) bool {
	return t.Op == api.OpConst && labelsOf(t) == labels{} && len(t.Kids)+len(t.Sub) == 0
}

func (c *counter) term(t api.Term) bool {
	f, ok := c.of(t)
	return ok && c.add(1) && validLabels(t) && fits(t, f.shape) && all(t.Kids, c.term) && all(t.Sub, c.plain)
}

// validLabels returns whether a term has the labels that its operator asks for, and no others.
func validLabels(t api.Term) bool {
	l := labelsOf(t)
	switch t.Op {
	case api.OpConst:
		return value.Valid(t.V) && l == labels{v: t.V}
	case api.OpName:
		return lex.IsName(t.Name) && isNameOrNone(t.Table) && l == labels{table: t.Table, name: t.Name}
	case api.OpAgg:
		return (t.Agg != api.AggRows || !t.Distinct) && l == labels{agg: t.Agg, distinct: t.Distinct}
	}
	return l == labels{}
}

// fits returns whether a term has as many kids and queries as its shape has places for.
func fits(t api.Term, shape string) bool {
	kids, queries, more := 0, 0, false
	for word := range strings.FieldsSeq(shape) {
		switch {
		case asked(word) > 0:
			kids++
		case word == "query":
			queries++
		case word == "more", word == "cases":
			more = true
		}
	}
	return len(t.Sub) == queries && (len(t.Kids) == kids || more && len(t.Kids) > kids)
}

// plain returns whether a query is valid and plain.
func (c *counter) plain(q api.Query) bool {
	return c.query(q) && isPlain(q)
}

func (c *counter) query(q api.Query) bool {
	return c.add(1+len(q.Order)) && hasFields(q) && all(q.Order, validOrder) && validLimit(q) &&
		all(q.Kids, c.query) && all(q.Items, c.item) && all(q.From, c.source) && all([][]api.Term{q.Where, q.Group, q.Having}, c.terms)
}

func (c *counter) terms(l []api.Term) bool {
	return all(l, c.term)
}

// hasFields returns whether a query has as many elements in its lists as its kind asks for.
func hasFields(q api.Query) bool {
	if q.Kind == api.QuerySelect {
		return len(q.Kids) == 0 && !q.All && len(q.Where) <= 1 && len(q.Having) <= 1
	}
	_, ok := setOf(q.Kind)
	return ok && len(q.Kids) == 2 && !q.Distinct && len(q.Items)+len(q.From)+len(q.Where)+len(q.Group)+len(q.Having) == 0
}

func validOrder(o api.Order) bool {
	if o.N == 0 {
		return lex.IsName(o.Name)
	}
	return o.Name == "" && isCount(o.N)
}

func validLimit(q api.Query) bool {
	if !q.HasLimit {
		return q.Limit == 0 && q.Offset == 0
	}
	return isCount(q.Limit) && isCount(q.Offset)
}

// isCount returns whether n can stand after LIMIT or OFFSET.
func isCount(n int) bool {
	return 0 <= n && n <= math.MaxInt32
}

func (c *counter) item(i api.Item) bool {
	if !c.add(1) {
		return false
	}
	if i.Star {
		return isNameOrNone(i.Table) && i.As == "" && isZero(i.Term)
	}
	return i.Table == "" && isNameOrNone(i.As) && c.term(i.Term)
}

func (c *counter) source(s api.Source) bool {
	return c.add(1) && validSource(s) && c.terms(s.On) && all(s.Kids, c.source) && all(s.Sub, c.query)
}

// validSource returns whether a source has the fields that its kind asks for, and no others.
func validSource(s api.Source) bool {
	switch s.Kind {
	case api.SourceTable:
		return lex.IsName(s.Name) && isNameOrNone(s.As) && s.Join == api.JoinCross && len(s.On)+len(s.Kids)+len(s.Sub) == 0
	case api.SourceQuery:
		return s.Name == "" && lex.IsName(s.As) && s.Join == api.JoinCross && len(s.On)+len(s.Kids) == 0 && len(s.Sub) == 1
	case api.SourceJoin:
		return s.Name == "" && s.As == "" && validJoin(s) && len(s.Sub) == 0
	}
	return false
}

func validJoin(s api.Source) bool {
	conditions := 1
	if s.Join == api.JoinCross {
		conditions = 0
	}
	return s.Join <= api.JoinFull && len(s.On) == conditions && len(s.Kids) == 2 && s.Kids[1].Kind != api.SourceJoin
}

func (c *counter) command(x api.Command) bool {
	s, ok := statementOf(x.Kind)
	if !ok || !c.add(1) {
		return false
	}
	for _, letter := range allFields {
		present, valid := c.field(letter, x)
		if isOwn := strings.ContainsRune(s.fields, letter); isOwn && !valid || !isOwn && present {
			return false
		}
	}
	return true
}

// field returns whether a command has the field with a letter, and whether it is valid where it belongs to the command.
func (c *counter) field(letter rune, x api.Command) (present, valid bool) {
	switch letter {
	case 'Q':
		return len(x.Query) > 0, len(x.Query) == 1 && all(x.Query, c.query)
	case 'T':
		return x.Table != "", lex.IsName(x.Table) || x.Table == "" && x.Kind == api.CommandAnalyze
	case 'C':
		return x.Column != "", lex.IsName(x.Column)
	case 'P':
		return len(x.Cols)+len(x.Keys)+len(x.Refs) > 0, c.add(len(x.Cols)) && all(x.Cols, validColumn) && all(x.Keys, c.names) && all(x.Refs, c.ref)
	case 'R':
		return len(x.Rows) > 0, len(x.Rows) > 0 && all(x.Rows, c.row)
	}
	return len(x.Where) > 0, len(x.Where) <= 1 && c.terms(x.Where)
}

func validColumn(d api.ColumnDef) bool {
	if !lex.IsName(d.Name) || d.Type > api.TypeBool {
		return false
	}
	switch {
	case !d.HasRange:
		return d.Lo == 0 && d.Hi == 0
	case d.Type == api.TypeInt:
		return d.Lo <= d.Hi
	case d.Type == api.TypeText:
		return d.Lo == 0 && 0 <= d.Hi && d.Hi <= api.MaxText
	}
	return false
}

// names returns whether a list of names is not empty, and each of them valid.
func (c *counter) names(l []string) bool {
	return len(l) > 0 && c.add(len(l)) && all(l, lex.IsName)
}

func (c *counter) ref(r api.RefDef) bool {
	return lex.IsName(r.Table) && c.names(r.Cols) && c.names(r.Keys)
}

func (c *counter) row(r api.Row) bool {
	return c.add(len(r)) && all(r, value.Valid)
}
