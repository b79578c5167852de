package show_test

import (
	"slices"
	"strings"
	"testing"

	"jointer/api"
	"jointer/calc"
	"jointer/show"
)

// P4.1

func TestOneNode(t *testing.T) {
	kids := []api.Term{name("a"), {}, integer(-1), name("b")}
	subs := []api.Query{{}, {}}
	values := []api.Value{{}, {Kind: api.KindInt, Int: 5}, {Kind: api.KindBool, Int: 2}}
	ops := []api.Op{31, 32, 100, 255}
	for op := range api.OpScalar + 2 {
		ops = append(ops, op)
	}
	valid := map[api.Op]int{}
	for _, op := range ops {
		for rest := range 5 * 3 * 3 * 3 * 3 * 8 * 2 {
			pick := func(n int) int {
				i := rest % n
				rest /= n
				return i
			}
			x := api.Term{Op: op, Kids: kids[:pick(5)], Sub: subs[:pick(3)], V: values[pick(3)]}
			x.Table, x.Name = []string{"", "t", "T"}[pick(3)], []string{"", "a", "from"}[pick(3)]
			x.Agg, x.Distinct = api.AggFn(pick(8)), pick(2) == 1
			if show.ValidTerm(x) != isTerm(x) {
				t.Fatalf("%+v: %v", x, show.ValidTerm(x))
			}
			if isTerm(x) {
				valid[op]++
			}
		}
	}
	if len(valid) != 29 || valid[api.OpColumn] != 0 || valid[api.OpAgg] != 1+5*2 || valid[api.OpConst] != 2 || valid[api.OpName] != 2 || valid[api.OpCase] != 3 || valid[api.OpCoalesce] != 4 {
		t.Errorf("the valid terms of each operator: %v", valid)
	}
}

// TestNumbersOfKids checks that the operators of layer 5 have the numbers of kids that layer 5 lets them have, but for AND and OR.
func TestNumbersOfKids(t *testing.T) {
	for op := api.OpNeg; op <= api.OpCoalesce; op++ {
		for n := range 10 {
			_, e := calc.Kind(op, make([]api.Kind, n))
			want := e == api.OK
			if op == api.OpAnd || op == api.OpOr {
				want = n == 2
			}
			if valid := show.ValidTerm(api.Term{Op: op, Kids: make([]api.Term, n)}); valid != want {
				t.Errorf("the operator %d with %d kids: %v", op, n, valid)
			}
		}
	}
}

func TestInvalidTerms(t *testing.T) {
	a, wrong := name("a"), api.Term{Op: api.OpName}
	text := func(n int) api.Term {
		return api.Term{V: api.Value{Kind: api.KindText, Text: strings.Repeat("'", n)}}
	}
	terms.checkValid(t, text(100))
	for _, x := range []api.Term{
		{Op: api.OpName}, {Op: api.OpName, Name: "A"}, {Op: api.OpName, Name: strings.Repeat("a", 21)}, {Op: api.OpName, Table: "t"}, {Op: api.OpName, Name: "a", Table: "t.u"}, {Op: api.OpName, Name: "a", Table: "select"}, {Op: api.OpColumn}, {Op: api.OpColumn, Name: "a"},
		text(101), {V: api.Value{Kind: 4}}, {V: api.Value{Int: 1}}, {V: api.Value{Kind: api.KindBool, Int: -1}}, {V: api.Value{Kind: api.KindInt, Text: "a"}},
		tree(api.OpAnd), tree(api.OpAnd, a), tree(api.OpAnd, a, a, a), tree(api.OpOr), tree(api.OpOr, a), tree(api.OpOr, a, a, a), tree(api.OpNot), tree(api.OpNot, a, a), tree(api.OpEq, a), tree(api.OpCase), tree(api.OpCase, a), tree(api.OpCoalesce), tree(api.OpLength),
		{Op: api.OpAgg, Kids: []api.Term{a}}, {Op: api.OpAgg, Distinct: true}, {Op: api.OpAgg, Agg: api.AggSum}, {Op: api.OpAgg, Agg: api.AggSum, Kids: []api.Term{a, a}}, {Op: api.OpAgg, Agg: 6, Kids: []api.Term{a}}, {Op: api.OpAgg, Agg: api.AggCount, Name: "a", Kids: []api.Term{a}},
		{Op: api.OpExists}, {Op: api.OpExists, Sub: []api.Query{{}, {}}}, {Op: api.OpExists, Kids: []api.Term{a}, Sub: []api.Query{{}}}, {Op: api.OpIn, Kids: []api.Term{a}}, {Op: api.OpIn, Sub: []api.Query{{}}}, {Op: api.OpScalar, Sub: []api.Query{{All: true}}}, {Op: api.OpEq, Kids: []api.Term{a, a}, Sub: []api.Query{{}}},
		tree(api.OpAdd, a, wrong), tree(api.OpAdd, wrong, a), tree(api.OpCoalesce, a, a, wrong), tree(api.OpCase, a, a, a, wrong), {Op: api.OpScalar, Sub: []api.Query{{Items: []api.Item{{Term: wrong}}}}},
	} {
		terms.checkInvalid(t, x)
		queries.checkInvalid(t, api.Query{Items: []api.Item{{Term: x}}})
		queries.checkInvalid(t, api.Query{Where: []api.Term{x}})
		queries.checkInvalid(t, api.Query{Group: []api.Term{a, x}})
		queries.checkInvalid(t, api.Query{Having: []api.Term{x}})
		queries.checkInvalid(t, api.Query{From: []api.Source{{Kind: api.SourceJoin, Join: api.JoinInner, Kids: []api.Source{{Name: "t"}, {Name: "u"}}, On: []api.Term{x}}}})
		commands.checkInvalid(t, api.Command{Kind: api.CommandDelete, Table: "t", Where: []api.Term{x}})
	}
}

func TestInvalidQueries(t *testing.T) {
	a, table := name("a"), api.Source{Name: "t"}
	two := []api.Query{{}, {}}
	kind := api.QueryIntersect
	l := []api.Query{
		{Kind: 4}, {Kind: 4, Kids: two}, {Kind: 255, Kids: two}, {All: true}, {Kids: two}, {Kids: two[:1]}, {Kind: kind}, {Kind: kind, Kids: two[:1]}, {Kind: kind, Kids: []api.Query{{}, {}, {}}}, {Kind: kind, Kids: []api.Query{{}, {All: true}}}, {Kind: kind, Kids: []api.Query{{Limit: 1}, {}}},
		{Kind: kind, Kids: two, Distinct: true}, {Kind: kind, Kids: two, Items: []api.Item{{Star: true}}}, {Kind: kind, Kids: two, From: []api.Source{table}}, {Kind: kind, Kids: two, Where: []api.Term{a}}, {Kind: kind, Kids: two, Group: []api.Term{a}}, {Kind: kind, Kids: two, Having: []api.Term{a}},
		{Where: []api.Term{a, a}}, {Having: []api.Term{a, a}},
		{Items: []api.Item{{Star: true, As: "x"}}}, {Items: []api.Item{{Star: true, Table: "T"}}}, {Items: []api.Item{{Star: true, Term: a}}}, {Items: []api.Item{{Star: true, Term: api.Term{Kids: []api.Term{{}}}}}}, {Items: []api.Item{{Star: true, Term: api.Term{Sub: two}}}}, {Items: []api.Item{{Star: true, Term: integer(0)}}}, {Items: []api.Item{{Table: "t", Term: a}}}, {Items: []api.Item{{Term: a, As: "1"}}}, {Items: []api.Item{{Term: a}, {Term: a, As: "as"}}},
	}
	for _, q := range []api.Query{
		{Limit: 1}, {Offset: 1}, {HasLimit: true, Limit: -1}, {HasLimit: true, Offset: -1}, {HasLimit: true, Limit: 1 << 31}, {HasLimit: true, Offset: 1 << 31}, {Limit: -1}, {Offset: -1}, {Limit: 1, Offset: -1},
		{Order: []api.Order{{}}}, {Order: []api.Order{{N: 1, Name: "a"}}}, {Order: []api.Order{{N: -1}}}, {Order: []api.Order{{N: 1 << 31}}}, {Order: []api.Order{{Name: "A"}}}, {Order: []api.Order{{Name: "a"}, {N: 1}, {Desc: true}}}, {Order: []api.Order{{N: -1, Name: "a"}}},
	} {
		both := q
		both.Kind, both.Kids = kind, two
		l = append(l, q, both)
	}
	join := api.Source{Kind: api.SourceJoin, Kids: []api.Source{table, table}}
	on := []api.Term{a}
	for _, s := range []api.Source{
		{}, {Name: "T"}, {Name: "t", As: "T"}, {Name: "t", Join: api.JoinInner}, {Name: "t", On: on}, {Name: "t", Kids: join.Kids}, {Name: "t", Sub: two[:1]}, {Kind: 3, Name: "t"},
		{Kind: api.SourceQuery, Sub: two[:1]}, {Kind: api.SourceQuery, Sub: two, As: "x"}, {Kind: api.SourceQuery, As: "x"}, {Kind: api.SourceQuery, Sub: two[:1], As: "X"}, {Kind: api.SourceQuery, Name: "t", Sub: two[:1], As: "x"}, {Kind: api.SourceQuery, Sub: two[:1], As: "x", On: on}, {Kind: api.SourceQuery, Sub: two[:1], As: "x", Join: api.JoinFull}, {Kind: api.SourceQuery, Sub: two[:1], As: "x", Kids: join.Kids}, {Kind: api.SourceQuery, Sub: []api.Query{{All: true}}, As: "x"},
		{Kind: api.SourceJoin}, {Kind: api.SourceJoin, Kids: join.Kids[:1]}, {Kind: api.SourceJoin, Kids: []api.Source{table, table, table}}, {Kind: api.SourceJoin, Kids: []api.Source{table, join}}, {Kind: api.SourceJoin, Kids: []api.Source{table, {}}}, {Kind: api.SourceJoin, Kids: []api.Source{{}, table}}, {Kind: api.SourceJoin, Kids: join.Kids, As: "x"}, {Kind: api.SourceJoin, Kids: join.Kids, Name: "t"}, {Kind: api.SourceJoin, Kids: join.Kids, Sub: two[:1]},
		{Kind: api.SourceJoin, Kids: join.Kids, On: on}, {Kind: api.SourceJoin, Kids: join.Kids, Join: api.JoinInner}, {Kind: api.SourceJoin, Kids: join.Kids, Join: api.JoinFull, On: []api.Term{a, a}}, {Kind: api.SourceJoin, Kids: join.Kids, Join: 5, On: on}, {Kind: api.SourceJoin, Kids: join.Kids, Join: 255},
	} {
		l = append(l, api.Query{From: []api.Source{s}}, api.Query{From: []api.Source{table, s}})
		if s.Kind != api.SourceJoin {
			l = append(l, api.Query{From: []api.Source{{Kind: api.SourceJoin, Kids: []api.Source{table, s}}}})
		}
	}
	for _, q := range l {
		queries.checkInvalid(t, q)
		queries.checkInvalid(t, api.Query{Kind: api.QueryUnion, Kids: []api.Query{q, {}}})
		terms.checkInvalid(t, api.Term{Op: api.OpExists, Sub: []api.Query{q}})
		commands.checkInvalid(t, api.Command{Query: []api.Query{q}})
		commands.checkInvalid(t, api.Command{Kind: api.CommandExplain, Query: []api.Query{q}})
	}
}

// commandFields sets each field of commands, validly.
func commandFields() map[string]func(*api.Command) {
	return map[string]func(*api.Command){
		"Query":  func(c *api.Command) { c.Query = []api.Query{{}} },
		"Table":  func(c *api.Command) { c.Table = "t" },
		"Column": func(c *api.Command) { c.Column = "a" },
		"Cols":   func(c *api.Command) { c.Cols = []api.ColumnDef{{Name: "a"}} },
		"Keys":   func(c *api.Command) { c.Keys = [][]string{{"a"}} },
		"Refs":   func(c *api.Command) { c.Refs = []api.RefDef{{Cols: []string{"a"}, Table: "u", Keys: []string{"b"}}} },
		"Rows":   func(c *api.Command) { c.Rows = []api.Row{{}} },
		"Where":  func(c *api.Command) { c.Where = []api.Term{{}} },
	}
}

func TestFieldsOfCommands(t *testing.T) {
	needed := map[api.CommandKind]string{api.CommandQuery: "Query", api.CommandExplain: "Query", api.CommandCreateTable: "Table", api.CommandCreateIndex: "Table Column", api.CommandDropTable: "Table", api.CommandDropIndex: "Table Column", api.CommandInsert: "Table Rows", api.CommandDelete: "Table"}
	allowed := map[api.CommandKind]string{api.CommandCreateTable: "Cols Keys Refs", api.CommandDelete: "Where", api.CommandAnalyze: "Table"}
	all := []string{"Query", "Table", "Column", "Cols", "Keys", "Refs", "Rows", "Where"}
	fields := commandFields()
	for kind := range api.CommandKind(12) {
		for set := range 1 << len(all) {
			c := api.Command{Kind: kind}
			valid := kind <= api.CommandAnalyze
			for i, field := range all {
				if set>>i&1 == 1 {
					fields[field](&c)
					valid = valid && strings.Contains(needed[kind]+" "+allowed[kind], field)
				} else {
					valid = valid && !slices.Contains(strings.Fields(needed[kind]), field)
				}
			}
			if show.ValidCommand(c) != valid || isCommand(c) != valid {
				t.Fatalf("%+v: %v", c, show.ValidCommand(c))
			}
		}
	}
}

func TestInvalidCommands(t *testing.T) {
	x := api.Command{Kind: api.CommandCreateTable, Table: "t"}
	for _, d := range []api.ColumnDef{
		{}, {Name: "A"}, {Name: "a", Type: 4}, {Name: "a", Type: 255, HasRange: true}, {Name: "a", Lo: 1}, {Name: "a", Hi: 1}, {Name: "a", Lo: -1, Hi: 1}, {Name: "a", HasRange: true, Lo: 1}, {Name: "a", HasRange: true, Lo: 1<<63 - 1, Hi: -1 << 63}, {Name: "a", Type: api.TypeBig, HasRange: true}, {Name: "a", Type: api.TypeBig, Hi: 1}, {Name: "a", Type: api.TypeBool, HasRange: true}, {Name: "a", Type: api.TypeBool, HasRange: true, Hi: 1}, {Name: "a", Type: api.TypeBool, Lo: 1},
		{Name: "a", Type: api.TypeText, Hi: 1}, {Name: "a", Type: api.TypeText, HasRange: true, Hi: -1}, {Name: "a", Type: api.TypeText, HasRange: true, Hi: 101}, {Name: "a", Type: api.TypeText, HasRange: true, Lo: 1, Hi: 1}, {Name: "a", Type: api.TypeText, HasRange: true, Lo: -1, Hi: 1},
	} {
		c := x
		c.Cols = []api.ColumnDef{{Name: "b"}, d}
		commands.checkInvalid(t, c)
	}
	for _, names := range [][]string{{}, {""}, {"a", "A"}, {"key"}, {"a", "b", ""}} {
		c := x
		c.Keys = [][]string{{"a"}, names}
		commands.checkInvalid(t, c)
		c.Keys, c.Refs = nil, []api.RefDef{{Cols: names, Table: "u", Keys: []string{"b"}}}
		commands.checkInvalid(t, c)
		c.Refs = []api.RefDef{{Cols: []string{"b"}, Table: "u", Keys: names}}
		commands.checkInvalid(t, c)
	}
	for _, s := range []string{"T", "a.b", "table", " a", strings.Repeat("a", 21)} {
		c := x
		c.Refs = []api.RefDef{{Cols: []string{"a"}, Table: s, Keys: []string{"a"}}}
		commands.checkInvalid(t, c)
		for kind := range api.CommandAnalyze {
			commands.checkInvalid(t, api.Command{Kind: kind + 1, Table: s})
		}
		commands.checkInvalid(t, api.Command{Kind: api.CommandInsert, Table: s, Rows: []api.Row{{}}})
		commands.checkInvalid(t, api.Command{Kind: api.CommandCreateIndex, Table: "t", Column: s})
		commands.checkInvalid(t, api.Command{Kind: api.CommandDropIndex, Table: "t", Column: s})
	}
	commands.checkInvalid(t, api.Command{Kind: api.CommandCreateTable, Table: "t", Refs: []api.RefDef{{Cols: []string{"a"}, Keys: []string{"a"}}}})
	commands.checkInvalid(t, api.Command{Kind: api.CommandInsert, Table: "t", Rows: []api.Row{{{}}, {{Kind: api.KindNull, Int: 1}}}})
	commands.checkInvalid(t, api.Command{Kind: api.CommandInsert, Table: "t", Rows: []api.Row{{{Kind: 4}}}})
	commands.checkInvalid(t, api.Command{Kind: api.CommandDelete, Table: "t", Where: []api.Term{{}, {}}})
	commands.checkInvalid(t, api.Command{Query: []api.Query{{}, {}}})
	commands.checkInvalid(t, api.Command{Kind: 9, Table: "t"})
	commands.checkInvalid(t, api.Command{Kind: 255})
}
