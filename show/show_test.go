package show_test

import (
	"testing"

	"jointer/api"
	"jointer/show"
)

func name(s string) api.Term { return api.Term{Op: api.OpName, Name: s} }

func integer(n int64) api.Term { return api.Term{V: api.Value{Kind: api.KindInt, Int: n}} }

// P4.2

func TestTermsOfTheDocument(t *testing.T) {
	a, b := name("a"), name("b")
	terms.checkSource(t, tree(api.OpMul, tree(api.OpAdd, a, integer(1)), tree(api.OpNeg, integer(5))), "(a + 1) * - (5)")
	terms.checkSource(t, tree(api.OpSub, a, tree(api.OpSub, b, integer(-1))), "a - (b - - 1)")
	terms.checkSource(t, tree(api.OpNot, tree(api.OpIsNull, api.Term{Op: api.OpName, Table: "t", Name: "a"})), "NOT t.a IS NULL")
	terms.checkSource(t, tree(api.OpIsNull, tree(api.OpNot, a)), "(NOT a) IS NULL")
}

func TestParenthesesOfTerms(t *testing.T) {
	a, b, c := name("a"), name("b"), name("c")
	for _, x := range []struct {
		s string
		t api.Term
	}{
		{"NULL", api.Term{}}, {"- (0)", tree(api.OpNeg, integer(0))}, {"- - 1", tree(api.OpNeg, integer(-1))}, {"- - (1)", tree(api.OpNeg, tree(api.OpNeg, integer(1)))}, {"- - 9223372036854775808", tree(api.OpNeg, integer(-1<<63))}, {"- (9223372036854775807)", tree(api.OpNeg, integer(1<<63-1))},
		{"- a", tree(api.OpNeg, a)}, {"- - a", tree(api.OpNeg, tree(api.OpNeg, a))}, {"- '5'", tree(api.OpNeg, api.Term{V: api.Value{Kind: api.KindText, Text: "5"}})}, {"- (5 * a)", tree(api.OpNeg, tree(api.OpMul, integer(5), a))}, {"- 5 * a", tree(api.OpMul, integer(-5), a)}, {"a * - 5", tree(api.OpMul, a, integer(-5))}, {"- a * b", tree(api.OpMul, tree(api.OpNeg, a), b)},
		{"a OR b OR c", tree(api.OpOr, tree(api.OpOr, a, b), c)}, {"a OR (b OR c)", tree(api.OpOr, a, tree(api.OpOr, b, c))}, {"(a OR b) AND c", tree(api.OpAnd, tree(api.OpOr, a, b), c)}, {"a OR b AND c", tree(api.OpOr, a, tree(api.OpAnd, b, c))}, {"a AND (b AND c)", tree(api.OpAnd, a, tree(api.OpAnd, b, c))},
		{"NOT a AND NOT b", tree(api.OpAnd, tree(api.OpNot, a), tree(api.OpNot, b))}, {"NOT (a AND b)", tree(api.OpNot, tree(api.OpAnd, a, b))}, {"NOT NOT a = b", tree(api.OpNot, tree(api.OpNot, tree(api.OpEq, a, b)))}, {"(NOT a) = b", tree(api.OpEq, tree(api.OpNot, a), b)},
		{"(a = b) = c", tree(api.OpEq, tree(api.OpEq, a, b), c)}, {"a < (b >= c)", tree(api.OpLt, a, tree(api.OpGe, b, c))}, {"(a IS NULL) IS TRUE", tree(api.OpIsTrue, tree(api.OpIsNull, a))}, {"a IS NOT DISTINCT FROM (b IS NOT DISTINCT FROM c)", tree(api.OpSame, a, tree(api.OpSame, b, c))}, {"NOT a IS NOT DISTINCT FROM b", tree(api.OpNot, tree(api.OpSame, a, b))}, {"a || b LIKE c || a", tree(api.OpLike, tree(api.OpConcat, a, b), tree(api.OpConcat, c, a))},
		{"a || b + c", tree(api.OpConcat, a, tree(api.OpAdd, b, c))}, {"(a || b) + c", tree(api.OpAdd, tree(api.OpConcat, a, b), c)}, {"a - (b + c)", tree(api.OpSub, a, tree(api.OpAdd, b, c))}, {"a - b + c", tree(api.OpAdd, tree(api.OpSub, a, b), c)}, {"a / b * c % a", tree(api.OpMod, tree(api.OpMul, tree(api.OpDiv, a, b), c), a)}, {"a / (b / c)", tree(api.OpDiv, a, tree(api.OpDiv, b, c))}, {"a + (b || c)", tree(api.OpAdd, a, tree(api.OpConcat, b, c))},
		{"COUNT (*)", tree(api.OpAgg)}, {"COUNT (a OR b)", api.Term{Op: api.OpAgg, Agg: api.AggCount, Kids: []api.Term{tree(api.OpOr, a, b)}}}, {"AVG (DISTINCT a)", api.Term{Op: api.OpAgg, Agg: api.AggAvg, Distinct: true, Kids: []api.Term{a}}},
		{"COALESCE (a OR b)", tree(api.OpCoalesce, tree(api.OpOr, a, b))}, {"LENGTH (NOT a)", tree(api.OpLength, tree(api.OpNot, a))}, {"CASE WHEN a THEN b END", tree(api.OpCase, a, b)}, {"CASE WHEN a THEN b ELSE c END", tree(api.OpCase, a, b, c)}, {"CASE WHEN a OR b THEN b WHEN c THEN a END", tree(api.OpCase, tree(api.OpOr, a, b), b, c, a)},
	} {
		terms.checkSource(t, x.t, x.s)
	}
}

func TestTermsWithQueries(t *testing.T) {
	a := name("a")
	union := api.Query{Kind: api.QueryUnion, Kids: []api.Query{{}, {}}}
	meet := api.Query{Kind: api.QueryIntersect, Kids: []api.Query{union, {}}}
	limited := api.Query{HasLimit: true}
	terms.checkSource(t, api.Term{Op: api.OpScalar, Sub: []api.Query{union}}, "(SELECT UNION SELECT)")
	terms.checkSource(t, api.Term{Op: api.OpExists, Sub: []api.Query{limited}}, "EXISTS (SELECT LIMIT 0)")
	terms.checkSource(t, api.Term{Op: api.OpIn, Kids: []api.Term{tree(api.OpEq, a, a)}, Sub: []api.Query{{}}}, "(a = a) IN (SELECT)")
	terms.checkSource(t, tree(api.OpCoalesce, api.Term{Op: api.OpScalar, Sub: []api.Query{{}}}), "COALESCE ((SELECT))")
	for _, q := range []api.Query{
		meet, {Kind: api.QueryUnion, Kids: []api.Query{limited, {}}}, {Kind: api.QueryUnion, Kids: []api.Query{meet, {}}}, {Kind: api.QueryExcept, Kids: []api.Query{{Order: []api.Order{{N: 1}}}, {}}}, {Kind: api.QueryIntersect, Kids: []api.Query{{Kind: api.QueryExcept, Kids: []api.Query{{}, {}}}, {}}},
	} {
		queries.checkValid(t, q)
		terms.checkInvalid(t, api.Term{Op: api.OpExists, Sub: []api.Query{q}})
		terms.checkInvalid(t, api.Term{Op: api.OpIn, Kids: []api.Term{a}, Sub: []api.Query{q}})
		terms.checkValid(t, api.Term{Op: api.OpScalar, Sub: []api.Query{{Kind: api.QueryUnion, Kids: []api.Query{{}, q}}}})
		terms.checkValid(t, api.Term{Op: api.OpScalar, Sub: []api.Query{{From: []api.Source{{Kind: api.SourceQuery, Sub: []api.Query{q}, As: "x"}}}}})
	}
}

func TestSourcesOfQueries(t *testing.T) {
	both := func(kind api.QueryKind, a, b api.Query) api.Query {
		return api.Query{Kind: kind, Kids: []api.Query{a, b}}
	}
	var one api.Query
	for _, x := range []struct {
		s string
		q api.Query
	}{
		{"SELECT", one}, {"SELECT NULL", api.Query{Items: []api.Item{{}}}}, {"SELECT DISTINCT *, t.* FROM t, u AS v", api.Query{Distinct: true, Items: []api.Item{{Star: true}, {Star: true, Table: "t"}}, From: []api.Source{{Name: "t"}, {Name: "u", As: "v"}}}},
		{"SELECT ORDER BY a, b DESC, 3 DESC LIMIT 0", api.Query{Order: []api.Order{{Name: "a"}, {Name: "b", Desc: true}, {N: 3, Desc: true}}, HasLimit: true}}, {"SELECT LIMIT 2147483647 OFFSET 2147483647", api.Query{HasLimit: true, Limit: 1<<31 - 1, Offset: 1<<31 - 1}}, {"SELECT HAVING a", api.Query{Having: []api.Term{name("a")}}},
		{"SELECT UNION SELECT EXCEPT SELECT", both(api.QueryExcept, both(api.QueryUnion, one, one), one)}, {"SELECT UNION (SELECT EXCEPT SELECT)", both(api.QueryUnion, one, both(api.QueryExcept, one, one))}, {"SELECT UNION SELECT INTERSECT SELECT", both(api.QueryUnion, one, both(api.QueryIntersect, one, one))}, {"(SELECT UNION SELECT) INTERSECT SELECT", both(api.QueryIntersect, both(api.QueryUnion, one, one), one)}, {"SELECT INTERSECT (SELECT INTERSECT SELECT)", both(api.QueryIntersect, one, both(api.QueryIntersect, one, one))}, {"SELECT INTERSECT SELECT EXCEPT SELECT", both(api.QueryExcept, both(api.QueryIntersect, one, one), one)},
		{"(SELECT LIMIT 0) UNION (SELECT ORDER BY 1)", both(api.QueryUnion, api.Query{HasLimit: true}, api.Query{Order: []api.Order{{N: 1}}})}, {"SELECT UNION ALL SELECT ORDER BY a", api.Query{Kind: api.QueryUnion, All: true, Kids: []api.Query{one, one}, Order: []api.Order{{Name: "a"}}}},
	} {
		queries.checkSource(t, x.q, x.s)
		commands.checkSource(t, api.Command{Query: []api.Query{x.q}}, x.s)
		commands.checkSource(t, api.Command{Kind: api.CommandExplain, Query: []api.Query{x.q}}, "EXPLAIN "+x.s)
	}
}

func TestJoins(t *testing.T) {
	x, on := api.Source{Name: "t"}, []api.Term{name("a")}
	s := "SELECT FROM t"
	for i, word := range []string{" CROSS JOIN u", " JOIN u ON a", " LEFT JOIN u ON a", " RIGHT JOIN u ON a", " FULL JOIN u ON a"} {
		x = api.Source{Kind: api.SourceJoin, Join: api.JoinKind(i), Kids: []api.Source{x, {Name: "u"}}}
		if i > 0 {
			x.On = on
		}
		s += word
		queries.checkSource(t, api.Query{From: []api.Source{x}}, s)
	}
	sub := api.Source{Kind: api.SourceQuery, Sub: []api.Query{{From: []api.Source{x}, HasLimit: true}}, As: "v"}
	queries.checkSource(t, api.Query{From: []api.Source{{Kind: api.SourceJoin, Kids: []api.Source{sub, sub}}}}, "SELECT FROM ("+s+" LIMIT 0) AS v CROSS JOIN ("+s+" LIMIT 0) AS v")
}

func TestSourcesOfCommands(t *testing.T) {
	commands.checkSource(t, api.Command{
		Kind: api.CommandCreateTable, Table: "t",
		Cols: []api.ColumnDef{{Name: "a"}, {Name: "b", HasRange: true, Lo: -1 << 63, Hi: -1, NotNull: true}, {Name: "c", Type: api.TypeBig}, {Name: "d", Type: api.TypeText}, {Name: "e", Type: api.TypeText, HasRange: true}, {Name: "f", Type: api.TypeBool, NotNull: true}, {Name: "f", HasRange: true}},
		Keys: [][]string{{"a", "b"}, {"z"}},
		Refs: []api.RefDef{{Cols: []string{"c", "a"}, Table: "u", Keys: []string{"x"}}, {Cols: []string{"b"}, Table: "t", Keys: []string{"b", "c"}}},
	}, "CREATE TABLE t (a INT, b INT (- 9223372036854775808 TO - 1) NOT NULL, c BIGINT, d TEXT, e TEXT (0), f BOOL NOT NULL, f INT (0 TO 0), KEY (a, b), KEY (z), FOREIGN KEY (c, a) REFERENCES u (x), FOREIGN KEY (b) REFERENCES t (b, c))")
	commands.checkSource(t, api.Command{Kind: api.CommandCreateTable, Table: "t"}, "CREATE TABLE t ()")
	commands.checkSource(t, api.Command{Kind: api.CommandCreateTable, Table: "t", Refs: []api.RefDef{{Cols: []string{"a"}, Table: "u", Keys: []string{"b"}}}}, "CREATE TABLE t (FOREIGN KEY (a) REFERENCES u (b))")
	commands.checkSource(t, api.Command{Kind: api.CommandCreateIndex, Table: "t", Column: "a"}, "CREATE INDEX ON t (a)")
	commands.checkSource(t, api.Command{Kind: api.CommandDropIndex, Table: "t", Column: "a"}, "DROP INDEX ON t (a)")
	commands.checkSource(t, api.Command{Kind: api.CommandDropTable, Table: "t"}, "DROP TABLE t")
	commands.checkSource(t, api.Command{Kind: api.CommandInsert, Table: "t", Rows: []api.Row{{}, {integer(-1).V, {}, {Kind: api.KindBool, Int: 1}}, {{Kind: api.KindText, Text: "it's"}}}}, "INSERT INTO t VALUES (), (- 1, NULL, TRUE), ('it''s')")
	commands.checkSource(t, api.Command{Kind: api.CommandDelete, Table: "t"}, "DELETE FROM t")
	commands.checkSource(t, api.Command{Kind: api.CommandDelete, Table: "t", Where: []api.Term{{}}}, "DELETE FROM t WHERE NULL")
	commands.checkSource(t, api.Command{Kind: api.CommandAnalyze}, "ANALYZE")
	commands.checkSource(t, api.Command{Kind: api.CommandAnalyze, Table: "t"}, "ANALYZE t")
}

// P4.4

func TestOtherSources(t *testing.T) {
	for s, want := range map[string]string{
		"((A))": "a", "- -5": "- - 5", "-(-(5))": "- - (5)", "(-5)": "- 5", "a-5": "a - 5", "007": "7", "-0": "0",
		"a between b and c": "a >= b AND a <= c", "a not between b and c": "NOT (a >= b AND a <= c)", "a in (1)": "a = 1", "a not in (1, (select 2), 3)": "NOT (a = 1 OR a = (SELECT 2) OR a = 3)", "(a or b) in (1)": "(a OR b) = 1",
		"a is not null": "NOT a IS NULL", "a is not true": "NOT a IS TRUE", "a is distinct from b": "NOT a IS NOT DISTINCT FROM b", "a is not distinct from b": "a IS NOT DISTINCT FROM b", "a not like b": "NOT a LIKE b", "a not in (select)": "NOT a IN (SELECT)", "not a not in (select b)": "NOT NOT a IN (SELECT b)",
		"coalesce((select), count(distinct(a)))": "COALESCE ((SELECT), COUNT (DISTINCT a))", "(select (select) union all (select))": "(SELECT (SELECT) UNION ALL SELECT)", "exists(select union (select limit 1))": "EXISTS (SELECT UNION (SELECT LIMIT 1))",
	} {
		terms.checkRead(t, s, want)
		queries.checkRead(t, "select "+s+" as x", "SELECT "+want+" AS x")
	}
	for s, want := range map[string]string{
		"(select) limit 0;": "SELECT LIMIT 0", "((select limit 0 offset 0))": "SELECT LIMIT 0", "select order by a asc, 2 asc": "SELECT ORDER BY a, 2",
		"select from a inner join b on c left outer join d on e right outer join f on g full outer join h on i cross join ((select)) as j": "SELECT FROM a JOIN b ON c LEFT JOIN d ON e RIGHT JOIN f ON g FULL JOIN h ON i CROSS JOIN (SELECT) AS j",
		"((select) union (select)) union (select)":               "SELECT UNION SELECT UNION SELECT",
		"(select union select) except (select intersect select)": "SELECT UNION SELECT EXCEPT SELECT INTERSECT SELECT",
		"(select union select) intersect ((select limit 1))":     "(SELECT UNION SELECT) INTERSECT (SELECT LIMIT 1)",
		"((select limit 1)) union select":                        "(SELECT LIMIT 1) UNION SELECT",
	} {
		queries.checkRead(t, s, want)
		commands.checkRead(t, s, want)
	}
	for s, want := range map[string]string{
		"create table t (foreign key (b) references u (c), key (a), a int (-0 to 00), key (b), b text(0))": "CREATE TABLE t (a INT (0 TO 0), b TEXT (0), KEY (a), KEY (b), FOREIGN KEY (b) REFERENCES u (c))",
		"insert into T values(-0)": "INSERT INTO t VALUES (0)",
		"analyze;":                 "ANALYZE",
		"delete from t where a between 1 and 2 -- x": "DELETE FROM t WHERE a >= 1 AND a <= 2",
	} {
		commands.checkRead(t, s, want)
	}
}

// R3: empty lists are absent ones.

func TestEmptyLists(t *testing.T) {
	none := api.Term{Kids: []api.Term{}, Sub: []api.Query{}}
	terms.checkSource(t, none, "NULL")
	queries.checkSource(t, api.Query{
		Kids: []api.Query{}, Items: []api.Item{{Star: true, Term: none}}, From: []api.Source{{Name: "t", On: []api.Term{}, Kids: []api.Source{}, Sub: []api.Query{}}},
		Where: []api.Term{}, Group: []api.Term{}, Having: []api.Term{}, Order: []api.Order{},
	}, "SELECT * FROM t")
	commands.checkSource(t, api.Command{Kind: api.CommandAnalyze, Query: []api.Query{}, Cols: []api.ColumnDef{}, Keys: [][]string{}, Refs: []api.RefDef{}, Rows: []api.Row{}, Where: []api.Term{}}, "ANALYZE")
	if s, e := show.Command(api.Command{Kind: api.CommandInsert, Table: "t", Rows: []api.Row{nil}}); s != "INSERT INTO t VALUES ()" || e != api.OK {
		t.Errorf("a row without values: %q, %v", s, e)
	}
}
