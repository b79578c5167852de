package show_test

import (
	"strings"
	"testing"

	"jointer/api"
	"jointer/show"
)

// times returns n elements.
func times[T any](n int, x T) []T {
	var l []T
	for range n {
		l = append(l, x)
	}
	return l
}

// checkNodes checks that a tree may have 400 nodes and no more: made returns a tree of at least least nodes, and one more for each part.
func checkNodes[T any](t *testing.T, f face[T], least int, made func(parts int) T) {
	t.Helper()
	for _, n := range []int{least + 1, 399, 400, 401, 402, 800} {
		tree := made(n - least)
		if f.nodes(tree) != n {
			t.Fatalf("%d nodes, want %d: %+v", f.nodes(tree), n, tree)
		}
		f.check(t, tree)
	}
}

// nots returns a term of n + 1 nodes.
func nots(n int) api.Term {
	x := name("a")
	for range n {
		x = tree(api.OpNot, x)
	}
	return x
}

// items returns a query of n + 1 nodes.
func items(n int) api.Query {
	return api.Query{Items: times(n, api.Item{Star: true})}
}

// P4.1: the numbers of nodes.

func TestNodesOfTerms(t *testing.T) {
	checkNodes(t, terms, 1, nots)
	checkNodes(t, terms, 2, func(n int) api.Term { return api.Term{Op: api.OpAgg, Agg: api.AggMin, Kids: []api.Term{nots(n)}} })
	checkNodes(t, terms, 1, func(n int) api.Term { return tree(api.OpCoalesce, times(n, name("a"))...) })
	checkNodes(t, terms, 2, func(n int) api.Term { return tree(api.OpCase, times(n+1, name("a"))...) })
	checkNodes(t, terms, 3, func(n int) api.Term { return tree(api.OpEq, integer(-5), nots(n)) })
	checkNodes(t, terms, 2, func(n int) api.Term { return api.Term{Op: api.OpExists, Sub: []api.Query{items(n)}} })
	checkNodes(t, terms, 6, func(n int) api.Term {
		return api.Term{Op: api.OpIn, Kids: []api.Term{nots(3)}, Sub: []api.Query{items(n)}}
	})
	checkNodes(t, terms, 8, func(n int) api.Term {
		return tree(api.OpAnd, api.Term{Op: api.OpScalar, Sub: []api.Query{items(4)}}, nots(n))
	})
}

// queriesOf returns queries to which n parts were added, by the number of their other nodes.
func queriesOf(n int) map[int][]api.Query {
	table := api.Source{Name: "t", As: "u"}
	return map[int][]api.Query{
		1: {items(n), {Order: times(n, api.Order{N: 1})}, {Group: times(n, name("a"))}, {From: times(n, table), HasLimit: true, Limit: 5, Offset: 6}},
		2: {{Where: []api.Term{nots(n)}}, {Having: []api.Term{nots(n)}}},
		3: {{Items: []api.Item{{Term: nots(n), As: "x"}}}, {From: []api.Source{{Kind: api.SourceQuery, Sub: []api.Query{items(n)}, As: "x"}}}},
		4: {{Kind: api.QueryUnion, Kids: []api.Query{{}, items(n)}, Order: []api.Order{{N: 1}}}},
		5: {{From: []api.Source{{Kind: api.SourceJoin, Join: api.JoinLeft, Kids: []api.Source{table, table}, On: []api.Term{nots(n)}}}}},
		7: {{Items: []api.Item{{Star: true}, {}}, Where: []api.Term{{}}, Having: []api.Term{{}}, Order: []api.Order{{N: 1}}, Group: times(n, name("a"))}},
	}
}

func TestNodesOfQueries(t *testing.T) {
	for least, l := range queriesOf(1) {
		for i := range l {
			one := func(n int) api.Query { return queriesOf(n)[least][i] }
			checkNodes(t, queries, least, one)
			checkNodes(t, commands, least+1, func(n int) api.Command { return api.Command{Query: []api.Query{one(n)}} })
			checkNodes(t, commands, least+1, func(n int) api.Command {
				return api.Command{Kind: api.CommandExplain, Query: []api.Query{one(n)}}
			})
		}
	}
}

func TestNodesOfCommands(t *testing.T) {
	table := func(c api.Command) api.Command {
		c.Kind, c.Table = api.CommandCreateTable, "t"
		return c
	}
	a := []string{"a"}
	checkNodes(t, commands, 1, func(n int) api.Command { return table(api.Command{Cols: times(n, api.ColumnDef{Name: "a"})}) })
	checkNodes(t, commands, 1, func(n int) api.Command { return table(api.Command{Keys: times(n, a)}) })
	checkNodes(t, commands, 1, func(n int) api.Command { return table(api.Command{Keys: [][]string{times(n, "a")}}) })
	checkNodes(t, commands, 2, func(n int) api.Command {
		return table(api.Command{Refs: []api.RefDef{{Cols: times(n, "a"), Table: "u", Keys: a}}})
	})
	checkNodes(t, commands, 2, func(n int) api.Command {
		return table(api.Command{Refs: []api.RefDef{{Cols: a, Table: "u", Keys: times(n, "a")}}})
	})
	checkNodes(t, commands, 6, func(n int) api.Command {
		return table(api.Command{Cols: times(n, api.ColumnDef{Name: "a"}), Keys: [][]string{{"a", "b"}, {"c"}}, Refs: []api.RefDef{{Cols: a, Table: "u", Keys: a}}})
	})
	checkNodes(t, commands, 1, func(n int) api.Command {
		return api.Command{Kind: api.CommandInsert, Table: "t", Rows: []api.Row{{}, times(n, api.Value{}), {}}}
	})
	checkNodes(t, commands, 1, func(n int) api.Command {
		return api.Command{Kind: api.CommandInsert, Table: "t", Rows: times(n, api.Row{{}})}
	})
	checkNodes(t, commands, 2, func(n int) api.Command {
		return api.Command{Kind: api.CommandDelete, Table: "t", Where: []api.Term{nots(n)}}
	})
}

// P4.2: sources of at most 4000 bytes.

func TestLongSources(t *testing.T) {
	bytes := func(n int) string { return strings.Repeat("x", n) }
	text := func(n int) api.Term { return api.Term{V: api.Value{Kind: api.KindText, Text: bytes(n)}} }
	full := func(n int) api.Term { // 16 + 104 * 38 + n bytes
		return tree(api.OpCoalesce, append(times(38, text(100)), text(n))...)
	}
	literals := strings.Repeat("'"+bytes(100)+"', ", 38)
	for _, n := range []int{0, 30, 33, 34, 35, 36, 37, 38, 60, 100} {
		source := "COALESCE (" + literals + "'" + bytes(n) + "')"
		terms.checkSource(t, full(n), source)
		queries.checkSource(t, api.Query{Where: []api.Term{full(n)}}, "SELECT WHERE "+source)
		commands.checkSource(t, api.Command{Query: []api.Query{{Items: []api.Item{{Term: full(n)}}}}}, "SELECT "+source)
		commands.checkSource(t, api.Command{Kind: api.CommandDelete, Table: "t", Where: []api.Term{full(n)}}, "DELETE FROM t WHERE "+source)
	}
	quotes := api.Term{V: api.Value{Kind: api.KindText, Text: strings.Repeat("'", 100)}}
	terms.checkSource(t, tree(api.OpCoalesce, times(19, quotes)...), "COALESCE ("+strings.Repeat(strings.Repeat("'", 202)+", ", 18)+strings.Repeat("'", 202)+")")
	terms.checkSource(t, tree(api.OpCoalesce, times(20, quotes)...), strings.Repeat("'", 4080))
}

func TestEmptyRows(t *testing.T) {
	for table, n := range map[string]int{"t": 23, "tt": 24, "ttt": 25} {
		for _, rows := range []int{1, 2, 994, 995, 996, 1000, 1000000} {
			c := api.Command{Kind: api.CommandInsert, Table: table, Rows: make([]api.Row, rows)}
			s, e := show.Command(c)
			if size := n + 4*(rows-1); !show.ValidCommand(c) || size <= 4000 && (len(s) != size || e != api.OK) || size > 4000 && (s != "" || e != api.ErrLimit) {
				t.Errorf("%d rows, %s: %d bytes, %v", rows, table, len(s), e)
			}
		}
	}
	c := api.Command{Kind: api.CommandInsert, Table: "t", Rows: append(make([]api.Row, 100000), api.Row{{Int: 1}})}
	if s, e := show.Command(c); show.ValidCommand(c) || s != "" || e != api.ErrArg {
		t.Errorf("a value that is not valid after many rows: %d bytes, %v", len(s), e)
	}
}

// P1: any trees, also those that are very deep, or contain themselves.

// checkTooLarge checks that a tree that cannot be gone through is not valid.
func checkTooLarge[T any](t *testing.T, f face[T], what string, tree T) {
	t.Helper()
	s, e := f.show(tree)
	if f.valid(tree) || s != "" || e != api.ErrArg {
		t.Errorf("%s: %q, %v", what, s, e)
	}
}

func TestTooLargeTerms(t *testing.T) {
	checkTooLarge(t, terms, "a deep term", nots(1<<16))
	shared := name("a")
	for range 200 {
		shared = tree(api.OpOr, times(2, shared)...)
	}
	checkTooLarge(t, terms, "a term that contains its parts several times", shared)
	round := tree(api.OpNot, api.Term{})
	round.Kids[0] = round
	checkTooLarge(t, terms, "a term that contains itself", round)
	sub := api.Term{Op: api.OpExists, Sub: []api.Query{{Where: []api.Term{{}}}}}
	sub.Sub[0].Where[0] = sub
	checkTooLarge(t, terms, "a term in its own query", sub)
	checkTooLarge(t, queries, "a term in its own query", sub.Sub[0])
	checkTooLarge(t, commands, "a term in its own query", api.Command{Kind: api.CommandDelete, Table: "t", Where: []api.Term{sub}})
}

func TestTooLargeQueries(t *testing.T) {
	for kind := range api.QueryIntersect {
		for i := range 2 {
			round := api.Query{Kind: kind + 1, Kids: []api.Query{{}, {}}}
			round.Kids[i] = round
			checkTooLarge(t, queries, "a query that contains itself", round)
			checkTooLarge(t, commands, "a query that contains itself", api.Command{Query: []api.Query{round}})
			checkTooLarge(t, terms, "a query that contains itself", api.Term{Op: api.OpScalar, Sub: []api.Query{round}})
		}
	}
	join := api.Source{Kind: api.SourceJoin, Kids: []api.Source{{}, {Name: "t"}}}
	join.Kids[0] = join
	checkTooLarge(t, queries, "a join that contains itself", api.Query{From: []api.Source{join}})
	sub := api.Source{Kind: api.SourceQuery, Sub: []api.Query{{From: []api.Source{{}}}}, As: "x"}
	sub.Sub[0].From[0] = sub
	checkTooLarge(t, queries, "a source in its own query", sub.Sub[0])
	checkTooLarge(t, queries, "many orders", api.Query{Order: times(1<<20, api.Order{N: 1})})
	checkTooLarge(t, commands, "many columns", api.Command{Kind: api.CommandCreateTable, Table: "t", Cols: times(1<<20, api.ColumnDef{Name: "a"})})
	checkTooLarge(t, commands, "many values", api.Command{Kind: api.CommandInsert, Table: "t", Rows: []api.Row{make(api.Row, 1<<20)}})
}
