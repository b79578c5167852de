package bag

import (
	"slices"

	"jointer/api"
	"jointer/value"
)

// Aggregate returns the aggregate of some values, or an out with an error.
func Aggregate(fn api.AggFn, distinct bool, values []api.Value) api.Out {
	rows := make([]api.Row, len(values))
	for i, v := range values {
		rows[i] = api.Row{v}
	}
	o := Group(rows, nil, []api.Agg{{Fn: fn, Distinct: distinct}}) // one group, also without values
	if o.Err != api.OK {
		return api.Out{Err: o.Err}
	}
	return api.Out{V: o.Rows[0][0]}
}

// Group returns a row for each group: its values of cols, and its aggregates; or an outcome with an error.
func Group(rows []api.Row, cols []int, aggs []api.Agg) api.Outcome {
	isNone := func(col int) bool { return !hasColumn(rows, col) }
	isWrong := func(agg api.Agg) bool { return !canAggregate(rows, agg) }
	if !Valid(rows) || slices.ContainsFunc(cols, isNone) || slices.ContainsFunc(aggs, isWrong) {
		return api.Outcome{Err: api.ErrArg}
	}
	var l []api.Row
	for _, g := range groupsOf(rows, cols, aggs) {
		row, e := g.row()
		if e != api.OK {
			return api.Outcome{Err: e} // the least error, since ErrOverflow is the only one
		}
		l = append(l, row)
	}
	slices.SortFunc(l, value.CompareRows)
	return api.Outcome{Rows: l}
}

// canAggregate returns whether an aggregate exists, and can be taken over the rows of a valid list.
func canAggregate(rows []api.Row, agg api.Agg) bool {
	switch agg.Fn {
	case api.AggRows:
		return agg == api.Agg{Fn: api.AggRows}
	case api.AggCount, api.AggMin, api.AggMax:
		return hasColumn(rows, agg.Col)
	case api.AggSum, api.AggAvg:
		isOther := func(row api.Row) bool {
			kind := row[agg.Col].Kind
			return kind != api.KindNull && kind != api.KindInt
		}
		return hasColumn(rows, agg.Col) && !slices.ContainsFunc(rows, isOther)
	}
	return false
}

// group is the values that its rows have in common, and its aggregates.
type group struct {
	head       api.Row
	aggregates []aggregate
}

func newGroup(head api.Row, aggs []api.Agg) group {
	g := group{head: head}
	for _, agg := range aggs {
		g.aggregates = append(g.aggregates, aggregateOf(agg))
	}
	return g
}

// groupsOf returns the groups of some rows, by their first rows.
func groupsOf(rows []api.Row, cols []int, aggs []api.Agg) []group {
	var groups []group
	numbers := map[string]int{}
	with := func(head api.Row) group {
		text := textOf(head)
		n, ok := numbers[text]
		if !ok {
			n = len(groups)
			numbers[text] = n
			groups = append(groups, newGroup(head, aggs))
		}
		return groups[n]
	}
	if len(cols) == 0 {
		with(nil) // exists without rows, too
	}
	for _, row := range rows {
		var head api.Row
		for _, col := range cols {
			head = append(head, row[col])
		}
		with(head).add(row, aggs)
	}
	return groups
}

// add hands those values of a row to the aggregates that count.
func (g group) add(row api.Row, aggs []api.Agg) {
	for i, agg := range aggs {
		if agg.Fn == api.AggRows {
			g.aggregates[i].add(api.Value{}) // the row may have no values
		} else if v := row[agg.Col]; v.Kind != api.KindNull {
			g.aggregates[i].add(v)
		}
	}
}

// row returns the values of the group and of its aggregates, or the error of one that fails.
func (g group) row() (api.Row, api.Errno) {
	row := slices.Clone(g.head)
	for _, a := range g.aggregates {
		o := a.out()
		if o.Err != api.OK {
			return nil, o.Err
		}
		row = append(row, o.V)
	}
	return row, api.OK
}
