package show_test

import (
	"math/rand"
	"strconv"
	"strings"

	"jointer/api"
)

// maker makes random valid trees together with their sources, by what the chapter says of levels and places. (A tree may have too many nodes, and a source too many bytes.)
type maker struct {
	*rand.Rand
}

func tree(op api.Op, kids ...api.Term) api.Term { return api.Term{Op: op, Kids: kids} }

// one returns whether something of which one in n is so is so.
func (m maker) one(n int) bool { return m.Intn(n) == 0 }

func (m maker) name() string {
	return []string{"a", "b", "c_1", "_", "x0", "long_name_of_20_byte"}[m.Intn(6)]
}

// or returns s or, as often, nothing; and whether it is s.
func (m maker) or(s string) (string, bool) {
	if m.one(2) {
		return s, true
	}
	return "", false
}

// made returns from least to n elements of a list, and their sources with commas.
func made[T any](m maker, least, n int, one func() (string, T)) (string, []T) {
	var sources []string
	var l []T
	for range least + m.Intn(n+1-least) {
		s, x := one()
		sources = append(sources, s)
		l = append(l, x)
	}
	return strings.Join(sources, ", "), l
}

// place returns a source as it stands at a place that asks for a level.
func place(asked, level int, s string) string {
	if level < asked {
		return "(" + s + ")"
	}
	return s
}

// at makes a term for a place that asks for a level.
func (m maker) at(d, asked int) (string, api.Term) {
	s, t, level := m.term(d)
	return place(asked, level, s), t
}

// any makes a term for a place that asks for the level 1.
func (m maker) any(d int) (string, api.Term) { return m.at(d, 1) }

// term makes a term, and returns its level, too.
func (m maker) term(d int) (string, api.Term, int) {
	if d <= 0 || m.one(8) {
		return m.leaf()
	}
	switch d--; m.Intn(10) {
	case 0, 1, 2:
		return m.binary(d)
	case 3, 4:
		return m.test(d)
	case 5:
		s, t := m.at(d, 3)
		return "NOT " + s, tree(api.OpNot, t), 3
	case 6:
		return m.negation(d)
	case 7:
		s, t := m.function(d)
		return s, t, 9
	case 8:
		s, t := m.aggregate(d)
		return s, t, 9
	}
	return m.withQuery(d)
}

func (m maker) leaf() (string, api.Term, int) {
	switch m.Intn(3) {
	case 0:
		s, v := m.value()
		return s, api.Term{V: v}, map[bool]int{true: 8, false: 9}[v.Int < 0]
	case 1:
		name := m.name()
		return name, api.Term{Op: api.OpName, Name: name}, 9
	}
	table, name := m.name(), m.name()
	return table + "." + name, api.Term{Op: api.OpName, Table: table, Name: name}, 9
}

func (m maker) value() (string, api.Value) {
	switch m.Intn(6) {
	case 0:
		return "NULL", api.Value{}
	case 1:
		return "TRUE", api.Value{Kind: api.KindBool, Int: 1}
	case 2:
		return "FALSE", api.Value{Kind: api.KindBool}
	case 3:
		s := []string{"", "x", "it's", "''", "SELECT", "(", "-", "\x00\xff\n--"}[m.Intn(8)]
		return "'" + strings.ReplaceAll(s, "'", "''") + "'", api.Value{Kind: api.KindText, Text: s}
	}
	n := []int64{-1 << 63, -5, -1, 0, 1, 7, 1<<63 - 1}[m.Intn(7)]
	return strings.Replace(strconv.FormatInt(n, 10), "-", "- ", 1), api.Value{Kind: api.KindInt, Int: n}
}

// operator is an operator of two kids, with its level.
type operator struct {
	op    api.Op
	word  string
	level int
}

func (m maker) binary(d int) (string, api.Term, int) {
	l := []operator{{api.OpOr, "OR", 1}, {api.OpAnd, "AND", 2}, {api.OpConcat, "||", 5}, {api.OpAdd, "+", 6}, {api.OpSub, "-", 6}, {api.OpMul, "*", 7}, {api.OpDiv, "/", 7}, {api.OpMod, "%", 7}}
	o := l[m.Intn(len(l))]
	s, t := m.at(d, o.level)
	right, kid := m.at(d, o.level+1)
	return s + " " + o.word + " " + right, tree(o.op, t, kid), o.level
}

func (m maker) test(d int) (string, api.Term, int) {
	l := []operator{{api.OpEq, "=", 4}, {api.OpNe, "<>", 4}, {api.OpLt, "<", 4}, {api.OpLe, "<=", 4}, {api.OpGt, ">", 4}, {api.OpGe, ">=", 4}, {api.OpSame, "IS NOT DISTINCT FROM", 4}, {api.OpLike, "LIKE", 4}, {api.OpIsNull, "IS NULL", 4}, {api.OpIsTrue, "IS TRUE", 4}}
	o := l[m.Intn(len(l))]
	s, t := m.at(d, 5)
	s += " " + o.word
	if o.op == api.OpIsNull || o.op == api.OpIsTrue {
		return s, tree(o.op, t), 4
	}
	right, kid := m.at(d, 5)
	return s + " " + right, tree(o.op, t, kid), 4
}

func (m maker) negation(d int) (string, api.Term, int) {
	s, t, level := m.term(d)
	if t.Op == api.OpConst && t.V.Kind == api.KindInt && t.V.Int >= 0 {
		level = 0
	}
	return "- " + place(8, level, s), tree(api.OpNeg, t), 8
}

func (m maker) function(d int) (string, api.Term) {
	if m.one(3) {
		s, t := m.any(d)
		return "LENGTH (" + s + ")", tree(api.OpLength, t)
	}
	if m.one(2) {
		s, l := made(m, 1, 4, func() (string, api.Term) { return m.any(d) })
		return "COALESCE (" + s + ")", tree(api.OpCoalesce, l...)
	}
	s, t := "CASE", api.Term{Op: api.OpCase}
	words := []string{"WHEN", "THEN"}
	n := 2 + m.Intn(5)
	for i := range n {
		one, kid := m.any(d)
		word := words[i%2]
		if i == n-1 && i%2 == 0 {
			word = "ELSE"
		}
		s += " " + word + " " + one
		t.Kids = append(t.Kids, kid)
	}
	return s + " END", t
}

func (m maker) aggregate(d int) (string, api.Term) {
	if m.one(4) {
		return "COUNT (*)", api.Term{Op: api.OpAgg}
	}
	fn := 1 + m.Intn(5)
	s, t := m.any(d)
	distinct, is := m.or("DISTINCT ")
	return []string{"", "COUNT", "SUM", "MIN", "MAX", "AVG"}[fn] + " (" + distinct + s + ")", api.Term{Op: api.OpAgg, Agg: api.AggFn(fn), Distinct: is, Kids: []api.Term{t}}
}

func (m maker) withQuery(d int) (string, api.Term, int) {
	s, q := m.plain(d)
	sub := []api.Query{q}
	switch m.Intn(3) {
	case 0:
		return "(" + s + ")", api.Term{Op: api.OpScalar, Sub: sub}, 9
	case 1:
		return "EXISTS (" + s + ")", api.Term{Op: api.OpExists, Sub: sub}, 9
	}
	left, t := m.at(d, 5)
	return left + " IN (" + s + ")", api.Term{Op: api.OpIn, Kids: []api.Term{t}, Sub: sub}, 4
}

// plain makes a plain query.
func (m maker) plain(d int) (string, api.Query) {
	for {
		if s, q, _ := m.query(d); s[0] == 'S' {
			return s, q
		}
	}
}

// query makes a query, and returns its level, too: 0 if it has ORDER BY or LIMIT.
func (m maker) query(d int) (string, api.Query, int) {
	s, q, level := m.body(d)
	if m.one(4) {
		orders := ""
		orders, q.Order = made(m, 1, 3, m.order)
		s, level = s+" ORDER BY "+orders, 0
	}
	if m.one(4) {
		q.HasLimit, q.Limit = true, []int{0, 5, 1<<31 - 1}[m.Intn(3)]
		s, level = s+" LIMIT "+strconv.Itoa(q.Limit), 0
		if m.one(2) {
			q.Offset = []int{1, 6, 1<<31 - 1}[m.Intn(3)]
			s += " OFFSET " + strconv.Itoa(q.Offset)
		}
	}
	return s, q, level
}

func (m maker) order() (string, api.Order) {
	desc, is := m.or(" DESC")
	if m.one(2) {
		n := []int{1, 3, 1<<31 - 1}[m.Intn(3)]
		return strconv.Itoa(n) + desc, api.Order{N: n, Desc: is}
	}
	name := m.name()
	return name + desc, api.Order{Name: name, Desc: is}
}

func (m maker) body(d int) (string, api.Query, int) {
	if d <= 0 || m.one(2) {
		s, q := m.selection(d)
		return s, q, 3
	}
	kind := []api.QueryKind{api.QueryUnion, api.QueryExcept, api.QueryIntersect}[m.Intn(3)]
	word, level := map[api.QueryKind]string{api.QueryUnion: " UNION ", api.QueryExcept: " EXCEPT ", api.QueryIntersect: " INTERSECT "}[kind], 1
	if kind == api.QueryIntersect {
		level = 2
	}
	all, is := m.or("ALL ")
	left, first, l := m.query(d - 1)
	right, second, r := m.query(d - 1)
	return place(level, l, left) + word + all + place(level+1, r, right), api.Query{Kind: kind, All: is, Kids: []api.Query{first, second}}, level
}

// clause returns a clause of a select, or nothing.
func clause(m maker, words string, d, n int) (string, []api.Term) {
	if !m.one(4) {
		return "", nil
	}
	s, l := made(m, 1, n, func() (string, api.Term) { return m.any(d) })
	return " " + words + " " + s, l
}

func (m maker) selection(d int) (string, api.Query) {
	d--
	var q api.Query
	s := "SELECT"
	if m.one(3) {
		s, q.Distinct = s+" DISTINCT", true
	}
	items := ""
	items, q.Items = made(m, 0, 3, func() (string, api.Item) { return m.item(d) })
	if items != "" {
		s += " " + items
	}
	if m.one(2) {
		sources := ""
		sources, q.From = made(m, 1, 2, func() (string, api.Source) { return m.source(d) })
		s += " FROM " + sources
	}
	where, group, having := "", "", ""
	where, q.Where = clause(m, "WHERE", d, 1)
	group, q.Group = clause(m, "GROUP BY", d, 2)
	having, q.Having = clause(m, "HAVING", d, 1)
	return s + where + group + having, q
}

func (m maker) item(d int) (string, api.Item) {
	switch m.Intn(6) {
	case 0:
		return "*", api.Item{Star: true}
	case 1:
		table := m.name()
		return table + ".*", api.Item{Star: true, Table: table}
	}
	s, t := m.any(d)
	as, name := m.as()
	return s + as, api.Item{Term: t, As: name}
}

// as makes the name of an item or a source, or nothing.
func (m maker) as() (string, string) {
	if m.one(2) {
		return "", ""
	}
	name := m.name()
	return " AS " + name, name
}

func (m maker) source(d int) (string, api.Source) {
	s, x := m.single(d)
	for m.one(3) {
		join := m.Intn(5)
		right, kid := m.single(d)
		s += []string{" CROSS", "", " LEFT", " RIGHT", " FULL"}[join] + " JOIN " + right
		x = api.Source{Kind: api.SourceJoin, Join: api.JoinKind(join), Kids: []api.Source{x, kid}}
		if join > 0 {
			on, t := m.any(d)
			s, x.On = s+" ON "+on, []api.Term{t}
		}
	}
	return s, x
}

func (m maker) single(d int) (string, api.Source) {
	name := m.name()
	if d > 0 && m.one(3) {
		s, q, _ := m.query(d - 1)
		return "(" + s + ") AS " + name, api.Source{Kind: api.SourceQuery, Sub: []api.Query{q}, As: name}
	}
	as, other := m.as()
	return name + as, api.Source{Name: name, As: other}
}

func (m maker) command(d int) (string, api.Command) {
	kind := api.CommandKind(m.Intn(9))
	c := api.Command{Kind: kind}
	if kind <= api.CommandExplain {
		s, q, _ := m.query(d)
		c.Query = []api.Query{q}
		return []string{"", "EXPLAIN "}[kind] + s, c
	}
	c.Table = m.name()
	s := []string{"", "", "CREATE TABLE ", "CREATE INDEX ON ", "DROP TABLE ", "DROP INDEX ON ", "INSERT INTO ", "DELETE FROM ", "ANALYZE "}[kind] + c.Table
	switch kind {
	case api.CommandCreateTable:
		s += " (" + m.parts(&c) + ")"
	case api.CommandCreateIndex, api.CommandDropIndex:
		c.Column = m.name()
		s += " (" + c.Column + ")"
	case api.CommandInsert:
		rows := ""
		rows, c.Rows = made(m, 1, 3, m.row)
		s += " VALUES " + rows
	case api.CommandDelete:
		where := ""
		where, c.Where = clause(m, "WHERE", d, 1)
		s += where
	case api.CommandAnalyze:
		if m.one(3) {
			return "ANALYZE", api.Command{Kind: kind}
		}
	}
	return s, c
}

func (m maker) row() (string, api.Row) {
	s, r := made(m, 0, 3, m.value)
	return "(" + s + ")", r
}

func (m maker) names() (string, []string) {
	s, l := made(m, 1, 3, func() (string, string) {
		name := m.name()
		return name, name
	})
	return "(" + s + ")", l
}

// parts makes the columns, keys and references of a table.
func (m maker) parts(c *api.Command) string {
	var l []string
	var s string
	s, c.Cols = made(m, 0, 3, m.column)
	l = append(l, s)
	s, c.Keys = made(m, 0, 2, func() (string, []string) {
		s, names := m.names()
		return "KEY " + s, names
	})
	l = append(l, s)
	s, c.Refs = made(m, 0, 2, func() (string, api.RefDef) {
		cols, l := m.names()
		keys, k := m.names()
		table := m.name()
		return "FOREIGN KEY " + cols + " REFERENCES " + table + " " + keys, api.RefDef{Cols: l, Table: table, Keys: k}
	})
	l = append(l, s)
	s = strings.Join(l, ", ")
	return strings.Trim(strings.ReplaceAll(s, ", , ", ", "), ", ")
}

func (m maker) column() (string, api.ColumnDef) {
	c := api.ColumnDef{Name: m.name(), Type: api.TypeName(m.Intn(4))}
	s := c.Name + " " + []string{"INT", "BIGINT", "TEXT", "BOOL"}[c.Type]
	if m.one(2) && c.Type == api.TypeInt {
		bounds := []int64{-1 << 63, -3, 0, 4, 1<<63 - 1}
		i := m.Intn(len(bounds))
		c.HasRange, c.Lo, c.Hi = true, bounds[i], bounds[i+m.Intn(len(bounds)-i)]
		s += strings.ReplaceAll(" ("+strconv.FormatInt(c.Lo, 10)+" TO "+strconv.FormatInt(c.Hi, 10)+")", "-", "- ")
	}
	if m.one(2) && c.Type == api.TypeText {
		c.HasRange, c.Hi = true, []int64{0, 7, 100}[m.Intn(3)]
		s += " (" + strconv.FormatInt(c.Hi, 10) + ")"
	}
	not := ""
	not, c.NotNull = m.or(" NOT NULL")
	return s + not, c
}
