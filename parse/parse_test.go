package parse_test

import (
	"strings"
	"testing"

	"jointer/api"
	"jointer/parse"
)

func name(s string) api.Term { return api.Term{Op: api.OpName, Name: s} }

func integer(n int64) api.Term { return api.Term{V: api.Value{Kind: api.KindInt, Int: n}} }

func checkTerm(t *testing.T, source string, want api.Term) {
	t.Helper()
	checkTree(t, parse.Term, source, want, termNodes(want))
}

func checkQuery(t *testing.T, source string, want api.Query) {
	t.Helper()
	checkTree(t, parse.Query, source, want, queryNodes(want))
	command := api.Command{Query: []api.Query{want}}
	checkTree(t, parse.Command, source, command, commandNodes(command))
}

func checkCommand(t *testing.T, source string, want api.Command) {
	t.Helper()
	checkTree(t, parse.Command, source, want, commandNodes(want))
}

// P3.1

func TestTermsOfTheDocument(t *testing.T) {
	a, b := name("a"), name("b")
	ab := api.Term{Op: api.OpName, Table: "a", Name: "b"}
	checkTerm(t, "a.b between 1 and -2", tree(api.OpAnd, tree(api.OpGe, ab, integer(1)), tree(api.OpLe, ab, integer(-2))))
	checkTerm(t, "not a is not null", tree(api.OpNot, tree(api.OpNot, tree(api.OpIsNull, a))))
	checkTerm(t, "- - 5", tree(api.OpNeg, integer(-5)))
	checkTerm(t, "-(5)", tree(api.OpNeg, integer(5)))
	checkTerm(t, "a - 5", tree(api.OpSub, a, integer(5)))
	checkTerm(t, "a - - 5", tree(api.OpSub, a, integer(-5)))
	checkTerm(t, "-9223372036854775808", integer(-1<<63))
	checkTerm(t, "a - b - c", tree(api.OpSub, tree(api.OpSub, a, b), name("c")))
	checkTerm(t, "a AND b AND c", tree(api.OpAnd, tree(api.OpAnd, a, b), name("c")))
	checkTerm(t, "a in (1, b, 2)", tree(api.OpOr, tree(api.OpOr, tree(api.OpEq, a, integer(1)), tree(api.OpEq, a, b)), tree(api.OpEq, a, integer(2))))
	checkTerm(t, "a is not distinct from b", tree(api.OpSame, a, b))
	checkTerm(t, "a is distinct from b", tree(api.OpNot, tree(api.OpSame, a, b)))
	f := faces["term"]
	checkFault(t, f, "9223372036854775808", 0, api.ErrNumber)
	checkFault(t, f, "a = b = c", 6, api.ErrSyntax)
	checkFault(t, f, "(a", 2, api.ErrSyntax)
}

func TestSigns(t *testing.T) {
	a := name("a")
	for source, want := range map[string]api.Term{
		"-5":                                integer(-5),
		"-0":                                integer(0),
		"- -- a remark\n 5":                 integer(-5),
		"- - - 5":                           tree(api.OpNeg, tree(api.OpNeg, integer(-5))),
		"-a":                                tree(api.OpNeg, a),
		"-'5'":                              tree(api.OpNeg, api.Term{V: api.Value{Kind: api.KindText, Text: "5"}}),
		"-(-5)":                             tree(api.OpNeg, integer(-5)),
		"-5 * a":                            tree(api.OpMul, integer(-5), a),
		"a * -5":                            tree(api.OpMul, a, integer(-5)),
		"a-5":                               tree(api.OpSub, a, integer(5)),
		"a * - - 9223372036854775808":       tree(api.OpMul, a, tree(api.OpNeg, integer(-1<<63))),
		"a in (-1)":                         tree(api.OpEq, a, integer(-1)),
		"-" + strings.Repeat("0", 99) + "7": integer(-7),
	} {
		checkTerm(t, source, want)
	}
	f := faces["term"]
	checkFault(t, f, "a - 9223372036854775808", 4, api.ErrNumber)
	checkFault(t, f, "-(9223372036854775808)", 2, api.ErrNumber)
	checkFault(t, f, "a 9223372036854775808", 2, api.ErrSyntax)
	checkFault(t, f, "+5", 0, api.ErrSyntax)
}

func TestQueriesInTerms(t *testing.T) {
	a, one := name("a"), api.Query{Items: []api.Item{{Term: integer(1)}}}
	scalar := api.Term{Op: api.OpScalar, Sub: []api.Query{one}}
	checkTerm(t, "(select 1)", scalar)
	checkTerm(t, "(((select 1)))", scalar)
	checkTerm(t, "a in (select 1)", api.Term{Op: api.OpIn, Kids: []api.Term{a}, Sub: []api.Query{one}})
	checkTerm(t, "a in ((select 1))", tree(api.OpEq, a, scalar))
	checkTerm(t, "a in ((select 1), a)", tree(api.OpOr, tree(api.OpEq, a, scalar), tree(api.OpEq, a, a)))
	checkTerm(t, "exists (select)", api.Term{Op: api.OpExists, Sub: []api.Query{{}}})
	union := api.Query{Kind: api.QueryUnion, Kids: []api.Query{one, {}}, Order: []api.Order{{N: 1}}, HasLimit: true}
	checkTerm(t, "(select 1 union (select) order by 1 limit 0)", api.Term{Op: api.OpScalar, Sub: []api.Query{union}})
	f := faces["term"]
	checkFault(t, f, "((select 1) union select 2)", 12, api.ErrSyntax)
	checkFault(t, f, "exists ((select 1))", 8, api.ErrSyntax)
	checkFault(t, f, "(select 1;)", 9, api.ErrSyntax)
	checkFault(t, f, "select 1", 0, api.ErrSyntax)
	checkFault(t, f, "a;", 1, api.ErrSyntax)
}

// P3.2

func TestQueriesOfTheDocument(t *testing.T) {
	one := api.Query{Items: []api.Item{{Term: integer(1)}}}
	checkQuery(t, "select from t", api.Query{From: []api.Source{{Name: "t"}}})
	limited := one
	limited.HasLimit, limited.Limit = true, 1
	checkQuery(t, "(select 1) limit 1", limited)
	for _, f := range []fault{faces["wholequery"], faces["wholecommand"]} {
		checkFault(t, f, "(select 1 limit 2) limit 1", 19, api.ErrSyntax)
		checkFault(t, f, "((select 1 limit 0)) order by 1", 21, api.ErrSyntax)
		checkFault(t, f, "(select 1 order by 1) limit 1", 22, api.ErrSyntax)
		checkFault(t, f, "((select 1 limit 2) limit 1)", 20, api.ErrSyntax)
		checkFault(t, f, "(select 1) limit 1 limit 2", 19, api.ErrSyntax)
		checkFault(t, f, "select 1 limit 2147483648", 15, api.ErrNumber)
		checkFault(t, f, "select 1 limit 1 offset 9223372036854775808", 24, api.ErrNumber)
		checkFault(t, f, "select 1 order by 0", 18, api.ErrNumber)
	}
}

func TestParenthesesOfQueries(t *testing.T) {
	one := api.Query{Items: []api.Item{{Term: integer(1)}}}
	limited := one
	limited.HasLimit = true
	checkQuery(t, "((select 1))", one)
	checkQuery(t, "((select 1) limit 0)", limited)
	checkQuery(t, "(select 1 limit 0)", limited)
	both := func(kind api.QueryKind, a, b api.Query) api.Query {
		return api.Query{Kind: kind, Kids: []api.Query{a, b}}
	}
	q := both(api.QueryUnion, limited, one)
	q.Order = []api.Order{{Name: "a"}}
	checkQuery(t, "(select 1 limit 0) union select 1 order by a", q)
	checkQuery(t, "(((select 1 limit 0)) union (select 1)) order by a", q)
	q = both(api.QueryIntersect, one, limited)
	q.HasLimit, q.Limit, q.Offset = true, 5, 6
	checkQuery(t, "select 1 intersect (select 1 limit 0) limit 5 offset 6", q)
	checkQuery(t, "select union select intersect select except select", both(api.QueryExcept, both(api.QueryUnion, api.Query{}, both(api.QueryIntersect, api.Query{}, api.Query{})), api.Query{}))
	checkQuery(t, "select union (select union select)", both(api.QueryUnion, api.Query{}, both(api.QueryUnion, api.Query{}, api.Query{})))
}

func TestStars(t *testing.T) {
	star := api.Query{Items: []api.Item{{Star: true}, {Star: true, Table: "t"}, {Term: tree(api.OpMul, name("t"), integer(2)), As: "x"}}}
	checkQuery(t, "select *, t.*, t * 2 as x", star)
	f := faces["wholequery"]
	checkFault(t, f, "select t '.' *", 9, api.ErrSyntax)
	checkFault(t, f, "select t.'*'", 9, api.ErrSyntax)
	checkFault(t, f, "select t.* as x", 11, api.ErrSyntax)
	checkFault(t, f, "select (t.*)", 10, api.ErrSyntax)
	checkFault(t, f, "select * 2", 9, api.ErrSyntax)
	checkFault(t, f, "select -t.*", 10, api.ErrSyntax)
}

// P3.3

func TestCommandsOfTheDocument(t *testing.T) {
	checkCommand(t, "create table t (a int (1 to 3) not null, key (a))", api.Command{
		Kind: api.CommandCreateTable, Table: "t",
		Cols: []api.ColumnDef{{Name: "a", HasRange: true, Lo: 1, Hi: 3, NotNull: true}}, Keys: [][]string{{"a"}},
	})
	checkFault(t, faces["wholecommand"], "limit", 0, api.ErrSyntax)
}

func TestTables(t *testing.T) {
	checkCommand(t, "create table t ();", api.Command{Kind: api.CommandCreateTable, Table: "t"})
	checkCommand(t, "create table t (key (a, b), a int, foreign key (c, a) references u (x, y), b text (0), foreign key (b) references t (b), c text not null, key (c), d bigint, e bool not null)", api.Command{
		Kind: api.CommandCreateTable, Table: "t",
		Cols: []api.ColumnDef{{Name: "a"}, {Name: "b", Type: api.TypeText, HasRange: true}, {Name: "c", Type: api.TypeText, NotNull: true}, {Name: "d", Type: api.TypeBig}, {Name: "e", Type: api.TypeBool, NotNull: true}},
		Keys: [][]string{{"a", "b"}, {"c"}},
		Refs: []api.RefDef{{Cols: []string{"c", "a"}, Table: "u", Keys: []string{"x", "y"}}, {Cols: []string{"b"}, Table: "t", Keys: []string{"b"}}},
	})
}

func TestBounds(t *testing.T) {
	for bounds, want := range map[string][2]int64{
		"0 to 0": {0, 0}, "-0 to 0": {0, 0}, "0 to -0": {0, 0}, "5 to 5": {5, 5}, "-5 to -5": {-5, -5}, "-5 to 3": {-5, 3},
		"-9223372036854775808 to -9223372036854775808": {-1 << 63, -1 << 63}, "- 9223372036854775808 to 9223372036854775807": {-1 << 63, 1<<63 - 1}, "9223372036854775807 to 9223372036854775807": {1<<63 - 1, 1<<63 - 1},
	} {
		checkCommand(t, "create table t (a int ("+bounds+"))", api.Command{
			Kind: api.CommandCreateTable, Table: "t", Cols: []api.ColumnDef{{Name: "a", HasRange: true, Lo: want[0], Hi: want[1]}},
		})
	}
	f := faces["wholecommand"]
	prefix := "create table t (a int ("
	for bounds, at := range map[string]int{
		"5 to 4": 5, "5 to -5": 6, "0 to -1": 6, "-5 to -6": 7, "9223372036854775808 to 1": 0, "1 to 9223372036854775808": 5, "-9223372036854775807 to -9223372036854775808": 25, "5 to - 0": 7,
	} {
		checkFault(t, f, prefix+bounds+"))", len(prefix)+at, api.ErrNumber)
	}
	for bounds, at := range map[string]int{
		"5 to - x": 7, "5 to -": 6, "5 to - -5": 7, "5 to 'x'": 5, "'1' to 2": 0, "5)": 1, "to 5": 0, "1 to 2 3": 7,
	} {
		checkFault(t, f, prefix+bounds+"))", len(prefix)+at, api.ErrSyntax)
	}
	checkFault(t, f, "create table t (a text (101))", 24, api.ErrNumber)
	checkFault(t, f, "create table t (a text (-1))", 24, api.ErrSyntax)
	checkFault(t, f, "create table t (a bigint (1))", 25, api.ErrSyntax)
	checkFault(t, f, "create table t (a bool (1))", 23, api.ErrSyntax)
}

func TestRows(t *testing.T) {
	n := func(n int64) api.Value { return integer(n).V }
	yes, no := api.Value{Kind: api.KindBool, Int: 1}, api.Value{Kind: api.KindBool}
	checkCommand(t, "insert into t values (), (1, -1, - 9223372036854775808), (null, true, false, 'x''y', '')", api.Command{
		Kind: api.CommandInsert, Table: "t", Rows: []api.Row{{}, {n(1), n(-1), n(-1 << 63)}, {{}, yes, no, {Kind: api.KindText, Text: "x'y"}, {Kind: api.KindText}}},
	})
	f := faces["wholecommand"]
	prefix := "insert into t values "
	checkFault(t, f, prefix+"(9223372036854775808)", len(prefix)+1, api.ErrNumber)
	for rows, at := range map[string]int{"(-)": 2, "(- -1)": 3, "(+1)": 1, "(a)": 1, "(1 + 1)": 3, "(1,)": 3, "(,)": 1, "1": 0, "(1) (2)": 4, "((1))": 1, "": 0} {
		checkFault(t, f, prefix+rows, len(prefix)+at, api.ErrSyntax)
	}
}

// P3.1 to P3.3

func TestErrorsOfTokens(t *testing.T) {
	for _, f := range faces {
		checkFault(t, f, "'a", 0, api.ErrOpen)
		checkFault(t, f, ") ) ?", 4, api.ErrChar)
		checkFault(t, f, ") 9223372036854775809", 2, api.ErrNumber)
		checkFault(t, f, "select 1a", 7, api.ErrNext)
		checkFault(t, f, "select "+strings.Repeat("a", 21), 7, api.ErrName)
		checkFault(t, f, "  '"+strings.Repeat("a", 101)+"'", 2, api.ErrLong)
		checkFault(t, f, strings.Repeat(")", 4001), 0, api.ErrLimit)
		checkFault(t, f, strings.Repeat("?", 1<<20), 0, api.ErrLimit)
		checkFault(t, f, ")"+strings.Repeat(" ", 3999), 0, api.ErrSyntax)
	}
}

func TestEndsOfSources(t *testing.T) {
	for start, whole := range map[string]string{"term": "a", "wholequery": "select", "wholecommand": "analyze"} {
		f := faces[start]
		for _, s := range []string{"", " ", "-- a", "\n-- a\n "} {
			checkFault(t, f, s, len(s), api.ErrSyntax)
			checkFault(t, f, whole+" "+s, 0, api.OK)
			checkFault(t, f, whole+" ("+s, len(whole)+1+map[string]int{"wholequery": 1 + len(s)}[start], api.ErrSyntax)
		}
		checkFault(t, f, ";", 0, api.ErrSyntax)
		checkFault(t, f, whole+";;", len(whole)+map[string]int{"wholequery": 1, "wholecommand": 1}[start], api.ErrSyntax)
	}
}

// padded is a source in which a part, of one node, may come any number of times; nodes counts those of the rest.
type padded struct {
	nodes            int
	begin, part, end string
}

// source returns the source whose tree has n nodes.
func (x padded) source(n int) string {
	return x.begin + strings.Repeat(x.part, n-x.nodes) + x.end
}

// checkNodes checks that trees may have 400 nodes and no more, and that any other error comes first.
func checkNodes(t *testing.T, f fault, l ...padded) {
	t.Helper()
	for _, x := range l {
		checkFault(t, f, x.source(399), 0, api.OK)
		checkFault(t, f, x.source(400), 0, api.OK)
		checkFault(t, f, x.source(401), 0, api.ErrLimit)
		checkFault(t, f, x.source(450), 0, api.ErrLimit)
		checkFault(t, f, x.source(450)+" )", len(x.source(450))+1, api.ErrSyntax)
		checkFault(t, f, x.source(450)+" ?", len(x.source(450))+1, api.ErrChar)
	}
}

func TestNodesOfTerms(t *testing.T) {
	checkNodes(t, faces["term"], []padded{
		{1, "", "- ", "a"}, {1, "", "not ", "1"}, {1, "", "- ", "count(*)"}, {2, "sum (distinct ", "- ", "a)"},
		{2, "coalesce (a", ", a", ")"}, {4, "case when a then b else ", "- ", "c end"}, {3, "", "- ", "a is not true"},
		{4, "a is distinct from ", "- ", "b"}, {3, "a is not distinct from ", "- ", "b"},
		{7, "a between 1 and ", "- ", "b"}, {7, "a between ", "- ", "b and 1"}, {7, "a in (1, ", "- ", "b)"}, {3, "a in (", "- ", "b)"},
		{3, "exists (select *", ", *", ")"}, {4, "a in (select *", ", *", ")"}, {4, "", "- ", "a in (select *)"}, {3, "(select from t", ", t", ")"}, {3, "(select order by 1", ", 1", ")"},
	}...)
	f := faces["term"]
	for twice, e := range map[int]api.Errno{196: api.OK, 197: api.ErrLimit} { // 7 nodes, and 2 for each mark -
		checkFault(t, f, strings.Repeat("- ", twice)+"a between 1 and 2", 0, e)
		checkFault(t, f, strings.Repeat("- ", twice)+"a in (1, 2)", 0, e)
	}
	for times, e := range map[int]api.Errno{100: api.OK, 101: api.ErrLimit} { // 4 nodes for each, but for the first OR
		checkFault(t, f, "a in (1"+strings.Repeat(", 1", times-1)+")", 0, e)
	}
}

func TestNodesOfQueries(t *testing.T) {
	l := []padded{
		{2, "select *", ", *", ""}, {2, "select t.*", ", t.*", ""}, {2, "select *", ", *", " limit 1 offset 2"}, {3, "select ", "- ", "a as x"},
		{2, "select from t", ", t", ""}, {4, "select from t cross join u", ", t", ""}, {5, "select from t join u on ", "- ", "a"}, {4, "select from (select *", ", *", ") as t"},
		{2, "select where ", "- ", "a"}, {2, "select group by a", ", a", ""}, {2, "select having ", "- ", "a"}, {2, "select order by a desc", ", 1", ""},
		{4, "select union select *", ", *", ""}, {4, "(((select *", ", *", ") except (select)))"},
	}
	checkNodes(t, faces["wholequery"], l...)
	for _, x := range l {
		x.nodes++
		checkNodes(t, faces["wholecommand"], x)
		x.begin = "explain " + x.begin
		checkNodes(t, faces["wholecommand"], x)
	}
}

func TestNodesOfCommands(t *testing.T) {
	checkNodes(t, faces["wholecommand"], []padded{
		{2, "create table t (a int (1 to 2) not null", ", a int", ")"}, {2, "create table t (key (a", ", a", "))"}, {3, "create table t (foreign key (a", ", a", ") references t (b))"}, {3, "create table t (foreign key (a) references t (b", ", a", "))"},
		{6, "create table t (a int, key (b, c), foreign key (a) references t (b)", ", b bool", ")"}, {2, "insert into t values (1", ", 1", ")"}, {3, "insert into t values (), (1), (null", ", 'x'", "), ()"}, {2, "delete from t where ", "- ", "a"},
	}...)
	checkCommand(t, "insert into t values ()"+strings.Repeat(",()", 1300), api.Command{Kind: api.CommandInsert, Table: "t", Rows: make([]api.Row, 1301)})
}

func TestDeepSources(t *testing.T) {
	f := faces["term"]
	checkFault(t, f, strings.Repeat("(", 4000), 4000, api.ErrSyntax)
	checkTerm(t, strings.Repeat("(", 1999)+"a"+strings.Repeat(")", 1999), name("a"))
	for depth, e := range map[int]api.Errno{6: api.OK, 7: api.ErrLimit, 200: api.ErrLimit} { // at each level the nodes of the one below twice, and 5
		between := strings.Repeat("(", depth) + "a" + strings.Repeat(" between b and c)", depth)
		checkFault(t, f, between, 0, e)
		in := strings.Repeat("(", depth) + "a" + strings.Repeat(" in (b, c))", depth)
		checkFault(t, f, in, 0, e)
		checkFault(t, f, between+")", len(between), api.ErrSyntax)
	}
	q := faces["wholequery"]
	checkQuery(t, strings.Repeat("(", 1990)+"select"+strings.Repeat(")", 1990), api.Query{})
	checkFault(t, q, strings.Repeat("(", 4000), 4000, api.ErrSyntax)
	checkFault(t, q, strings.Repeat("select from(", 333), 3996, api.ErrSyntax)
	checkFault(t, q, "select"+strings.Repeat(" union select", 300), 0, api.ErrLimit)
}
