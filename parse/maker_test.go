package parse_test

import (
	"fmt"
	"math/rand"
	"strconv"
	"strings"

	"jointer/api"
)

// maker makes random sources by the grammar, together with their trees by what the document says of trees.
type maker struct {
	*rand.Rand
}

// operator is an operator as it is written, and as it stands in trees.
type operator struct {
	written string
	op      api.Op
}

func tree(op api.Op, kids ...api.Term) api.Term { return api.Term{Op: op, Kids: kids} }

// one returns whether something of which one in n is so is so.
func (m maker) one(n int) bool { return m.Intn(n) == 0 }

func (m maker) pick(l ...string) string { return l[m.Intn(len(l))] }

// or returns s or, as often, nothing; and whether it is s.
func (m maker) or(s string) (string, bool) {
	if m.one(2) {
		return s, true
	}
	return "", false
}

func (m maker) name() string { return m.pick("a", "b", "c_1", "_", "long_name_of_20_bytes"[:20]) }

// listed returns 1 to n texts, or 0 to n, with commas.
func (m maker) listed(least, n int, one func() string) string {
	var l []string
	for range least + m.Intn(n+1-least) {
		l = append(l, one())
	}
	return strings.Join(l, " , ")
}

func (m maker) chain(d int, operators []operator, operand func(d int) (string, api.Term)) (string, api.Term) {
	s, t := operand(d)
	for d > 0 && m.one(4) {
		o := operators[m.Intn(len(operators))]
		right, kid := operand(d - 1)
		s += " " + o.written + " " + right
		t = tree(o.op, t, kid)
	}
	return s, t
}

func (m maker) term(d int) (string, api.Term) {
	return m.chain(d, []operator{{"OR", api.OpOr}}, m.and)
}

func (m maker) and(d int) (string, api.Term) {
	return m.chain(d, []operator{{"AND", api.OpAnd}}, m.not)
}

func (m maker) not(d int) (string, api.Term) {
	if m.one(6) {
		s, t := m.not(d)
		return "NOT " + s, tree(api.OpNot, t)
	}
	return m.test(d)
}

func (m maker) test(d int) (string, api.Term) {
	s, t := m.cat(d)
	if d == 0 || m.one(2) {
		return s, t
	}
	d--
	switch m.Intn(3) {
	case 0:
		comparisons := []operator{{"=", api.OpEq}, {"<>", api.OpNe}, {"<", api.OpLt}, {"<=", api.OpLe}, {">", api.OpGt}, {">=", api.OpGe}}
		o := comparisons[m.Intn(len(comparisons))]
		right, kid := m.cat(d)
		return s + " " + o.written + " " + right, tree(o.op, t, kid)
	case 1:
		return m.is(d, s, t)
	}
	not, isNot := m.or("NOT ")
	rest, t := m.among(d, t)
	if isNot {
		t = tree(api.OpNot, t)
	}
	return s + " " + not + rest, t
}

func (m maker) is(d int, s string, t api.Term) (string, api.Term) {
	not, isNot := m.or("NOT ")
	s += " IS " + not
	switch m.Intn(3) {
	case 0:
		s, t = s+"NULL", tree(api.OpIsNull, t)
	case 1:
		s, t = s+"TRUE", tree(api.OpIsTrue, t)
	default:
		right, kid := m.cat(d)
		s, t = s+"DISTINCT FROM "+right, tree(api.OpSame, t, kid)
		isNot = !isNot
	}
	if isNot {
		t = tree(api.OpNot, t)
	}
	return s, t
}

func (m maker) among(d int, t api.Term) (string, api.Term) {
	right, kid := m.cat(d)
	switch m.Intn(4) {
	case 0:
		return "LIKE " + right, tree(api.OpLike, t, kid)
	case 1:
		high, last := m.cat(d)
		return "BETWEEN " + right + " AND " + high, tree(api.OpAnd, tree(api.OpGe, t, kid), tree(api.OpLe, t, last))
	case 2:
		sub, q := m.query(d, true)
		return "IN ( " + sub + " )", api.Term{Op: api.OpIn, Kids: []api.Term{t}, Sub: []api.Query{q}}
	}
	right, kid = m.term(d)
	all := tree(api.OpEq, t, kid)
	for range m.Intn(3) {
		s, k := m.term(d)
		right += " , " + s
		all = tree(api.OpOr, all, tree(api.OpEq, t, k))
	}
	return "IN ( " + right + " )", all
}

func (m maker) cat(d int) (string, api.Term) {
	return m.chain(d, []operator{{"||", api.OpConcat}}, m.sum)
}

func (m maker) sum(d int) (string, api.Term) {
	return m.chain(d, []operator{{"+", api.OpAdd}, {"-", api.OpSub}}, m.product)
}

func (m maker) product(d int) (string, api.Term) {
	return m.chain(d, []operator{{"*", api.OpMul}, {"/", api.OpDiv}, {"%", api.OpMod}}, m.unary)
}

func (m maker) unary(d int) (string, api.Term) {
	if m.one(5) {
		s, t := m.unary(d)
		if s[0] < '0' || s[0] > '9' { // a number would have the mark - as its sign
			return "- " + s, tree(api.OpNeg, t)
		}
		return s, t
	}
	return m.primary(d)
}

// literal returns a literal, of which a number may have a sign.
func (m maker) literal() (string, api.Value) {
	switch m.Intn(7) {
	case 0:
		return "NULL", api.Value{}
	case 1:
		return "TRUE", api.Value{Kind: api.KindBool, Int: 1}
	case 2:
		return "FALSE", api.Value{Kind: api.KindBool}
	case 3:
		s := m.pick("", "x", "it's", "SELECT", "(", "-")
		return "'" + strings.ReplaceAll(s, "'", "''") + "'", api.Value{Kind: api.KindText, Text: s}
	case 4:
		n := []int64{-1 << 63, -1, -5, 0}[m.Intn(4)]
		return "- " + strconv.FormatUint(-uint64(n), 10), api.Value{Kind: api.KindInt, Int: n}
	}
	n := []int64{0, 1, 7, 1<<63 - 1}[m.Intn(4)]
	return m.pick("", "000") + strconv.FormatInt(n, 10), api.Value{Kind: api.KindInt, Int: n}
}

func (m maker) primary(d int) (string, api.Term) {
	kind := m.Intn(10)
	if d == 0 {
		kind = m.Intn(4)
	}
	d--
	switch kind {
	case 0:
		s, v := m.literal()
		return s, api.Term{V: v}
	case 1:
		table, name := m.name(), m.name()
		return table + " . " + name, api.Term{Op: api.OpName, Table: table, Name: name}
	case 2, 3:
		name := m.name()
		return name, api.Term{Op: api.OpName, Name: name}
	case 4:
		s, q := m.query(d, true)
		return "( " + s + " )", api.Term{Op: api.OpScalar, Sub: []api.Query{q}}
	case 5:
		s, q := m.query(d, true)
		return "EXISTS ( " + s + " )", api.Term{Op: api.OpExists, Sub: []api.Query{q}}
	case 6:
		return m.cases(d)
	case 7:
		return m.function(d)
	case 8:
		return m.aggregate(d)
	}
	s, t := m.term(d)
	return "( " + s + " )", t
}

func (m maker) cases(d int) (string, api.Term) {
	s, t := "CASE", api.Term{Op: api.OpCase}
	next := func(word string) {
		part, kid := m.term(d)
		s += " " + word + " " + part
		t.Kids = append(t.Kids, kid)
	}
	for range 1 + m.Intn(2) {
		next("WHEN")
		next("THEN")
	}
	if m.one(2) {
		next("ELSE")
	}
	return s + " END", t
}

func (m maker) function(d int) (string, api.Term) {
	s, t := m.term(d)
	if m.one(2) {
		return "LENGTH ( " + s + " )", tree(api.OpLength, t)
	}
	l := []api.Term{t}
	for range m.Intn(3) {
		more, t := m.term(d)
		s += " , " + more
		l = append(l, t)
	}
	return "COALESCE ( " + s + " )", tree(api.OpCoalesce, l...)
}

func (m maker) aggregate(d int) (string, api.Term) {
	if m.one(4) {
		return "COUNT ( * )", api.Term{Op: api.OpAgg}
	}
	fn := 1 + m.Intn(5)
	s, t := m.term(d)
	distinct, is := m.or("DISTINCT ")
	return []string{"", "COUNT", "SUM", "MIN", "MAX", "AVG"}[fn] + " ( " + distinct + s + " )", api.Term{Op: api.OpAgg, Agg: api.AggFn(fn), Distinct: is, Kids: []api.Term{t}}
}

// query makes a query, whose first token is SELECT if it is plain.
func (m maker) query(d int, plain bool) (string, api.Query) {
	s, q := m.body(d, plain)
	if len(q.Order) > 0 || q.HasLimit {
		return s, q
	}
	if m.one(4) {
		s += " ORDER BY " + m.listed(1, 3, func() string { return m.order(&q) })
	}
	if m.one(4) {
		q.HasLimit, q.Limit = true, m.Intn(3)*(1<<30-1)
		s += " LIMIT " + strconv.Itoa(q.Limit)
		if m.one(2) {
			q.Offset = m.Intn(2) * (1<<31 - 1)
			s += " OFFSET " + strconv.Itoa(q.Offset)
		}
	}
	return s, q
}

func (m maker) order(q *api.Query) string {
	desc, is := m.or(" DESC")
	if !is && m.one(2) {
		desc = " ASC"
	}
	o := api.Order{Desc: is}
	if m.one(2) {
		o.N = []int{1, 3, 1<<31 - 1}[m.Intn(3)]
		q.Order = append(q.Order, o)
		return strconv.Itoa(o.N) + desc
	}
	o.Name = m.name()
	q.Order = append(q.Order, o)
	return o.Name + desc
}

func (m maker) operations(d int, plain bool, kinds map[string]api.QueryKind, operators []string, operand func(d int, plain bool) (string, api.Query)) (string, api.Query) {
	s, q := operand(d, plain)
	for d > 0 && m.one(4) {
		word := m.pick(operators...)
		all, is := m.or(" ALL")
		right, kid := operand(d-1, false)
		s += " " + word + all + " " + right
		q = api.Query{Kind: kinds[word], All: is, Kids: []api.Query{q, kid}}
	}
	return s, q
}

func (m maker) body(d int, plain bool) (string, api.Query) {
	return m.operations(d, plain, map[string]api.QueryKind{"UNION": api.QueryUnion, "EXCEPT": api.QueryExcept}, []string{"UNION", "EXCEPT"}, m.meet)
}

func (m maker) meet(d int, plain bool) (string, api.Query) {
	return m.operations(d, plain, map[string]api.QueryKind{"INTERSECT": api.QueryIntersect}, []string{"INTERSECT"}, m.simple)
}

func (m maker) simple(d int, plain bool) (string, api.Query) {
	if !plain && d > 0 && m.one(3) {
		s, q := m.query(d-1, false)
		return "( " + s + " )", q
	}
	return m.selection(d)
}

func (m maker) selection(d int) (string, api.Query) {
	d = max(d-1, 0)
	s, q := "SELECT", api.Query{}
	if m.one(3) {
		s, q.Distinct = s+" DISTINCT", true
	}
	s += " " + m.listed(0, 3, func() string { return m.item(d, &q) })
	if m.one(2) {
		s += " FROM " + m.listed(1, 2, func() string {
			one, source := m.source(d)
			q.From = append(q.From, source)
			return one
		})
	}
	term := func(l *[]api.Term) string {
		one, t := m.term(d)
		*l = append(*l, t)
		return one
	}
	if m.one(3) {
		s += " WHERE " + term(&q.Where)
	}
	if m.one(4) {
		s += " GROUP BY " + m.listed(1, 2, func() string { return term(&q.Group) })
	}
	if m.one(4) {
		s += " HAVING " + term(&q.Having)
	}
	return s, q
}

func (m maker) item(d int, q *api.Query) string {
	var s string
	var i api.Item
	switch m.Intn(6) {
	case 0:
		s, i.Star = "*", true
	case 1:
		i.Star, i.Table = true, m.name()
		s = i.Table + " . *"
	default:
		s, i.Term = m.term(d)
		if m.one(2) {
			i.As = m.name()
			s += " AS " + i.As
		}
	}
	q.Items = append(q.Items, i)
	return s
}

func (m maker) source(d int) (string, api.Source) {
	s, x := m.single(d)
	for m.one(3) {
		join := m.Intn(5)
		right, kid := m.single(d)
		outer, _ := m.or(" OUTER")
		s += " " + []string{"CROSS", m.pick("INNER", ""), "LEFT" + outer, "RIGHT" + outer, "FULL" + outer}[join] + " JOIN " + right
		x = api.Source{Kind: api.SourceJoin, Join: api.JoinKind(join), Kids: []api.Source{x, kid}}
		if join > 0 {
			on, t := m.term(d)
			s += " ON " + on
			x.On = []api.Term{t}
		}
	}
	return s, x
}

func (m maker) single(d int) (string, api.Source) {
	as := m.name()
	if d > 0 && m.one(3) {
		s, q := m.query(d-1, false)
		return "( " + s + " ) AS " + as, api.Source{Kind: api.SourceQuery, Sub: []api.Query{q}, As: as}
	}
	name := m.name()
	if m.one(2) {
		return name + " AS " + as, api.Source{Name: name, As: as}
	}
	return name, api.Source{Name: name}
}

func (m maker) command() (string, api.Command) {
	name, column := m.name(), m.name()
	switch kind := api.CommandKind(m.Intn(9)); kind {
	case api.CommandQuery, api.CommandExplain:
		s, q := m.query(2, false)
		return []string{"", "EXPLAIN "}[kind] + s, api.Command{Kind: kind, Query: []api.Query{q}}
	case api.CommandCreateTable:
		c := api.Command{Kind: kind, Table: name}
		parts := m.listed(0, 6, func() string { return m.part(&c) })
		return "CREATE TABLE " + name + " ( " + parts + " )", c
	case api.CommandCreateIndex:
		return "CREATE INDEX ON " + name + " ( " + column + " )", api.Command{Kind: kind, Table: name, Column: column}
	case api.CommandDropTable:
		return "DROP TABLE " + name, api.Command{Kind: kind, Table: name}
	case api.CommandDropIndex:
		return "DROP INDEX ON " + name + " ( " + column + " )", api.Command{Kind: kind, Table: name, Column: column}
	case api.CommandInsert:
		c := api.Command{Kind: kind, Table: name}
		rows := m.listed(1, 4, func() string { return m.row(&c) })
		return "INSERT INTO " + name + " VALUES " + rows, c
	case api.CommandDelete:
		if m.one(3) {
			return "DELETE FROM " + name, api.Command{Kind: kind, Table: name}
		}
		s, t := m.term(2)
		return "DELETE FROM " + name + " WHERE " + s, api.Command{Kind: kind, Table: name, Where: []api.Term{t}}
	}
	if m.one(3) {
		return "ANALYZE", api.Command{Kind: api.CommandAnalyze}
	}
	return "ANALYZE " + name, api.Command{Kind: api.CommandAnalyze, Table: name}
}

func (m maker) row(c *api.Command) string {
	var r api.Row
	s := "( " + m.listed(0, 3, func() string {
		one, v := m.literal()
		r = append(r, v)
		return one
	}) + " )"
	c.Rows = append(c.Rows, r)
	return s
}

func (m maker) names() (string, []string) {
	var l []string
	s := m.listed(1, 3, func() string {
		name := m.name()
		l = append(l, name)
		return name
	})
	return "( " + s + " )", l
}

func (m maker) part(c *api.Command) string {
	s, l := m.names()
	switch m.Intn(5) {
	case 0:
		c.Keys = append(c.Keys, l)
		return "KEY " + s
	case 1:
		other, keys := m.names()
		r := api.RefDef{Cols: l, Table: m.name(), Keys: keys}
		c.Refs = append(c.Refs, r)
		return "FOREIGN KEY " + s + " REFERENCES " + r.Table + " " + other
	}
	x := api.ColumnDef{Name: m.name(), Type: api.TypeName(m.Intn(4)), HasRange: m.one(2)}
	s = x.Name + " " + []string{"INT", "BIGINT", "TEXT", "BOOL"}[x.Type]
	switch {
	case x.HasRange && x.Type == api.TypeInt:
		bounds := []int64{-1 << 63, -3, 0, 4, 1<<63 - 1}
		i := m.Intn(len(bounds))
		x.Lo, x.Hi = bounds[i], bounds[i+m.Intn(len(bounds)-i)]
		s += strings.ReplaceAll(fmt.Sprintf(" ( %d TO %d )", x.Lo, x.Hi), "-", "- ")
	case x.HasRange && x.Type == api.TypeText:
		x.Hi = []int64{0, 7, 100}[m.Intn(3)]
		s += fmt.Sprintf(" ( %d )", x.Hi)
	default:
		x.HasRange = false
	}
	if m.one(2) {
		s, x.NotNull = s+" NOT NULL", true
	}
	c.Cols = append(c.Cols, x)
	return s
}
