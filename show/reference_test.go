package show_test

import (
	"reflect"
	"slices"
	"strings"

	"jointer/api"
)

// The functions of this file say which trees are valid, and how many nodes they have, as the chapter says it; they do not end for trees that contain themselves.

// only returns whether no field of a struct but those of a list has anything.
func only(x any, list string) bool {
	v := reflect.ValueOf(x)
	for i := range v.NumField() {
		if !slices.Contains(strings.Fields(list), v.Type().Field(i).Name) && !isEmpty(v.Field(i)) {
			return false
		}
	}
	return true
}

// isEmpty returns whether a value is zero, or an empty list.
func isEmpty(v reflect.Value) bool {
	switch v.Kind() {
	case reflect.Slice:
		return v.Len() == 0
	case reflect.Struct:
		for i := range v.NumField() {
			if !isEmpty(v.Field(i)) {
				return false
			}
		}
		return true
	}
	return v.IsZero()
}

func every[T any](l []T, is func(T) bool) bool {
	return !slices.ContainsFunc(l, func(x T) bool { return !is(x) })
}

func sum[T any](l []T, nodes func(T) int) int {
	n := 0
	for _, x := range l {
		n += nodes(x)
	}
	return n
}

func isName(s string) bool {
	keywords := "all analyze and as asc avg between bigint bool by case coalesce count create cross delete desc distinct drop else end except exists explain false foreign from full group having in index inner insert int intersect into is join key left length like limit max min not null offset on or order outer references right select sum table text then to true union values when where"
	return len(s) >= 1 && len(s) <= 20 && !strings.ContainsAny(s[:1], "0123456789") && strings.Trim(s, "abcdefghijklmnopqrstuvwxyz0123456789_") == "" && !slices.Contains(strings.Fields(keywords), s)
}

func isNameOrNot(s string) bool { return s == "" || isName(s) }

func isValue(v api.Value) bool {
	switch v.Kind {
	case api.KindNull:
		return v.Int == 0 && v.Text == ""
	case api.KindInt:
		return v.Text == ""
	case api.KindText:
		return v.Int == 0 && len(v.Text) <= 100
	case api.KindBool:
		return (v.Int == 0 || v.Int == 1) && v.Text == ""
	}
	return false
}

func isTerm(t api.Term) bool {
	if !every(t.Kids, isTerm) || !every(t.Sub, func(q api.Query) bool { return isQuery(q) && plain(q) }) {
		return false
	}
	kids, subs := len(t.Kids), len(t.Sub)
	switch t.Op {
	case api.OpConst:
		return only(t, "V") && isValue(t.V)
	case api.OpName:
		return only(t, "Op Table Name") && isName(t.Name) && isNameOrNot(t.Table)
	case api.OpAgg:
		if t.Agg == api.AggRows {
			return only(t, "Op")
		}
		return only(t, "Op Agg Distinct Kids") && t.Agg <= api.AggAvg && kids == 1
	case api.OpExists, api.OpScalar:
		return only(t, "Op Sub") && subs == 1
	case api.OpIn:
		return only(t, "Op Kids Sub") && kids == 1 && subs == 1
	case api.OpNeg, api.OpLength, api.OpIsNull, api.OpIsTrue, api.OpNot:
		return only(t, "Op Kids") && kids == 1
	case api.OpCase:
		return only(t, "Op Kids") && kids >= 2
	case api.OpCoalesce:
		return only(t, "Op Kids") && kids >= 1
	case api.OpAdd, api.OpSub, api.OpMul, api.OpDiv, api.OpMod, api.OpConcat, api.OpEq, api.OpNe, api.OpLt, api.OpLe, api.OpGt, api.OpGe, api.OpSame, api.OpLike, api.OpAnd, api.OpOr:
		return only(t, "Op Kids") && kids == 2
	}
	return false
}

// plain returns whether a valid query is plain.
func plain(q api.Query) bool {
	if q.Kind == api.QuerySelect {
		return true
	}
	kid := q.Kids[0]
	meetOfOthers := q.Kind == api.QueryIntersect && (kid.Kind == api.QueryUnion || kid.Kind == api.QueryExcept)
	return len(kid.Order) == 0 && !kid.HasLimit && !meetOfOthers && plain(kid)
}

func isQuery(q api.Query) bool {
	count := func(n int) bool { return n >= 0 && n < 1<<31 }
	order := func(o api.Order) bool { return count(o.N) && (o.N == 0) != (o.Name == "") && isNameOrNot(o.Name) }
	if !every(q.Order, order) || !count(q.Limit) || !count(q.Offset) || !q.HasLimit && q.Limit+q.Offset > 0 {
		return false
	}
	if q.Kind == api.QuerySelect {
		return only(q, "Distinct Items From Where Group Having Order HasLimit Limit Offset") && every(q.Items, isItem) && every(q.From, isSource) &&
			len(q.Where) <= 1 && len(q.Having) <= 1 && every(slices.Concat(q.Where, q.Group, q.Having), isTerm)
	}
	return q.Kind <= api.QueryIntersect && only(q, "Kind All Kids Order HasLimit Limit Offset") && len(q.Kids) == 2 && every(q.Kids, isQuery)
}

func isItem(i api.Item) bool {
	if i.Star {
		return only(i, "Star Table") && isNameOrNot(i.Table)
	}
	return only(i, "Term As") && isTerm(i.Term) && isNameOrNot(i.As)
}

func isSource(s api.Source) bool {
	switch s.Kind {
	case api.SourceTable:
		return only(s, "Name As") && isName(s.Name) && isNameOrNot(s.As)
	case api.SourceQuery:
		return only(s, "Kind Sub As") && isName(s.As) && len(s.Sub) == 1 && isQuery(s.Sub[0])
	case api.SourceJoin:
		ons := 1
		if s.Join == api.JoinCross {
			ons = 0
		}
		return only(s, "Kind Join On Kids") && s.Join <= api.JoinFull && len(s.On) == ons && every(s.On, isTerm) &&
			len(s.Kids) == 2 && every(s.Kids, isSource) && s.Kids[1].Kind != api.SourceJoin
	}
	return false
}

func isColumn(d api.ColumnDef) bool {
	if !isName(d.Name) {
		return false
	}
	switch d.Type {
	case api.TypeInt:
		return d.HasRange && d.Lo <= d.Hi || only(d, "Name Type NotNull")
	case api.TypeText:
		return d.HasRange && d.Lo == 0 && d.Hi >= 0 && d.Hi <= 100 || only(d, "Name Type NotNull")
	case api.TypeBig, api.TypeBool:
		return only(d, "Name Type NotNull")
	}
	return false
}

func isCommand(c api.Command) bool {
	names := func(l []string) bool { return len(l) > 0 && every(l, isName) }
	ref := func(r api.RefDef) bool { return isName(r.Table) && names(r.Cols) && names(r.Keys) }
	row := func(r api.Row) bool { return every(r, isValue) }
	switch c.Kind {
	case api.CommandQuery, api.CommandExplain:
		return only(c, "Kind Query") && len(c.Query) == 1 && isQuery(c.Query[0])
	case api.CommandCreateTable:
		return only(c, "Kind Table Cols Keys Refs") && isName(c.Table) && every(c.Cols, isColumn) && every(c.Keys, names) && every(c.Refs, ref)
	case api.CommandCreateIndex, api.CommandDropIndex:
		return only(c, "Kind Table Column") && isName(c.Table) && isName(c.Column)
	case api.CommandDropTable:
		return only(c, "Kind Table") && isName(c.Table)
	case api.CommandInsert:
		return only(c, "Kind Table Rows") && isName(c.Table) && len(c.Rows) > 0 && every(c.Rows, row)
	case api.CommandDelete:
		return only(c, "Kind Table Where") && isName(c.Table) && len(c.Where) <= 1 && every(c.Where, isTerm)
	case api.CommandAnalyze:
		return only(c, "Kind Table") && isNameOrNot(c.Table)
	}
	return false
}

func termNodes(t api.Term) int { return 1 + sum(t.Kids, termNodes) + sum(t.Sub, queryNodes) }

func queryNodes(q api.Query) int {
	return 1 + sum(q.Kids, queryNodes) + sum(q.Items, itemNodes) + sum(q.From, sourceNodes) + sum(slices.Concat(q.Where, q.Group, q.Having), termNodes) + len(q.Order)
}

func itemNodes(i api.Item) int {
	if i.Star {
		return 1
	}
	return 1 + termNodes(i.Term)
}

func sourceNodes(s api.Source) int {
	return 1 + sum(s.On, termNodes) + sum(s.Kids, sourceNodes) + sum(s.Sub, queryNodes)
}

func commandNodes(c api.Command) int {
	names := func(l []string) int { return len(l) }
	refs := sum(c.Refs, func(r api.RefDef) int { return len(r.Cols) + len(r.Keys) })
	values := sum(c.Rows, func(r api.Row) int { return len(r) })
	return 1 + len(c.Cols) + sum(c.Keys, names) + refs + values + sum(c.Query, queryNodes) + sum(c.Where, termNodes)
}
