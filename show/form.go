package show

import "jointer/api"

// form is how a term is written: its level, and its shape. A digit in a shape is the place of a kid, and the level that this place asks for; words in small letters are the places of other parts of the term; all other words stand for themselves.
type form struct {
	level int
	shape string
}

// highest is the level of what never needs parentheses.
const highest = 9

// forms has the forms of the operators and of the aggregate functions of valid terms.
type forms struct {
	operators  map[api.Op]form
	aggregates map[api.AggFn]form
}

func newForms() forms {
	return forms{
		operators: map[api.Op]form{
			api.OpConst:    {highest, "value"},
			api.OpName:     {highest, "name"},
			api.OpNeg:      {8, "- 8"},
			api.OpAdd:      {6, "6 + 7"},
			api.OpSub:      {6, "6 - 7"},
			api.OpMul:      {7, "7 * 8"},
			api.OpDiv:      {7, "7 / 8"},
			api.OpMod:      {7, "7 % 8"},
			api.OpConcat:   {5, "5 || 6"},
			api.OpLength:   {highest, "LENGTH ( 1 )"},
			api.OpEq:       {4, "5 = 5"},
			api.OpNe:       {4, "5 <> 5"},
			api.OpLt:       {4, "5 < 5"},
			api.OpLe:       {4, "5 <= 5"},
			api.OpGt:       {4, "5 > 5"},
			api.OpGe:       {4, "5 >= 5"},
			api.OpSame:     {4, "5 IS NOT DISTINCT FROM 5"},
			api.OpLike:     {4, "5 LIKE 5"},
			api.OpIsNull:   {4, "5 IS NULL"},
			api.OpIsTrue:   {4, "5 IS TRUE"},
			api.OpNot:      {3, "NOT 3"},
			api.OpAnd:      {2, "2 AND 3"},
			api.OpOr:       {1, "1 OR 2"},
			api.OpCase:     {highest, "CASE WHEN 1 THEN 1 cases END"},
			api.OpCoalesce: {highest, "COALESCE ( 1 more )"},
			api.OpExists:   {highest, "EXISTS ( query )"},
			api.OpIn:       {4, "5 IN ( query )"},
			api.OpScalar:   {highest, "( query )"},
		},
		aggregates: map[api.AggFn]form{
			api.AggRows:  {highest, "COUNT ( * )"},
			api.AggCount: {highest, "COUNT ( distinct 1 )"},
			api.AggSum:   {highest, "SUM ( distinct 1 )"},
			api.AggMin:   {highest, "MIN ( distinct 1 )"},
			api.AggMax:   {highest, "MAX ( distinct 1 )"},
			api.AggAvg:   {highest, "AVG ( distinct 1 )"},
		},
	}
}

// of returns the form of a term, if its operator has one.
func (f forms) of(t api.Term) (form, bool) {
	if t.Op == api.OpAgg {
		x, ok := f.aggregates[t.Agg]
		return x, ok
	}
	x, ok := f.operators[t.Op]
	if isInteger(t) && t.V.Int < 0 { // it is written with the mark -, as an OpNeg is
		x.level = f.operators[api.OpNeg].level
	}
	return x, ok
}

func isInteger(t api.Term) bool {
	return t.Op == api.OpConst && t.V.Kind == api.KindInt
}

// asked returns the level for which a word of a shape asks, or 0 if it is not the place of a kid.
func asked(word string) int {
	if '1' <= word[0] && word[0] <= '9' {
		return int(word[0] - '0')
	}
	return 0
}

// set is how a set operation is written, and its level.
type set struct {
	level int
	word  string
}

// setOf returns the level of a query, and the word of its operation, if its kind exists.
func setOf(kind api.QueryKind) (set, bool) {
	switch kind {
	case api.QueryUnion:
		return set{1, "UNION"}, true
	case api.QueryExcept:
		return set{1, "EXCEPT"}, true
	case api.QueryIntersect:
		return set{2, "INTERSECT"}, true
	}
	return set{3, ""}, kind == api.QuerySelect
}

// enclosesKid returns whether the kid number i of a set operation stands in parentheses.
func enclosesKid(q api.Query, i int) bool {
	kid := q.Kids[i]
	own, _ := setOf(q.Kind)
	inner, _ := setOf(kid.Kind)
	return len(kid.Order) > 0 || kid.HasLimit || inner.level < own.level+i
}

// isPlain returns whether the source of a valid query begins with SELECT.
func isPlain(q api.Query) bool {
	for q.Kind != api.QuerySelect {
		if enclosesKid(q, 0) {
			return false
		}
		q = q.Kids[0]
	}
	return true
}

// statement is how a command is written: the words with which it begins, and then its fields, each by a letter.
type statement struct {
	words  string
	fields string
}

// The letters of the fields of commands: Query, Table, Column, the parts of a table (Cols, Keys and Refs), Rows and Where.
const allFields = "QTCPRW"

// statementOf returns how commands of a kind are written, if the kind exists.
func statementOf(kind api.CommandKind) (statement, bool) {
	x, ok := map[api.CommandKind]statement{
		api.CommandQuery:       {"", "Q"},
		api.CommandExplain:     {"EXPLAIN", "Q"},
		api.CommandCreateTable: {"CREATE TABLE", "TP"},
		api.CommandCreateIndex: {"CREATE INDEX ON", "TC"},
		api.CommandDropTable:   {"DROP TABLE", "T"},
		api.CommandDropIndex:   {"DROP INDEX ON", "TC"},
		api.CommandInsert:      {"INSERT INTO", "TR"},
		api.CommandDelete:      {"DELETE FROM", "TW"},
		api.CommandAnalyze:     {"ANALYZE", "T"},
	}[kind]
	return x, ok
}
