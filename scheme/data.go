package scheme

import (
	"jointer/api"
	"jointer/value"
)

// ValidData returns whether a scheme is valid, and data are valid for it.
func ValidData(s api.Scheme, d api.Data) bool {
	if !Valid(s) || len(d) != len(s) {
		return false
	}
	for n, t := range s { // in this order, since a reference looks at the rows of a table before its own
		fits := func(row api.Row) bool { return rowError(t.Cols, row) == api.OK }
		if len(d[n]) > api.MaxRows || !all(d[n], fits) || !keysHold(t, d[n]) || !refsHold(s, d, n) {
			return false
		}
	}
	return true
}

// rowError returns what is wrong with a row of a table with these columns.
func rowError(cols []api.Column, row api.Row) api.Errno {
	if len(row) != len(cols) {
		return api.ErrWidth
	}
	for i, v := range row {
		if e := valueError(cols[i], v); e != api.OK {
			return e
		}
	}
	return api.OK
}

// valueError returns what is wrong with a value in a column.
func valueError(c api.Column, v api.Value) api.Errno {
	isNull := v.Kind == api.KindNull
	switch {
	case !value.Valid(v), !isNull && v.Kind != c.Kind:
		return api.ErrType
	case isNull && c.NotNull:
		return api.ErrNull
	case !isNull && !inRange(c, v):
		return api.ErrRange
	}
	return api.OK
}

// inRange returns whether a value that is not null lies in the range of a column of its kind.
func inRange(c api.Column, v api.Value) bool {
	switch c.Kind {
	case api.KindInt:
		return c.Lo <= v.Int && v.Int <= c.Hi
	case api.KindText:
		return int64(len(v.Text)) <= c.Hi
	}
	return true
}

// tuple has the values of a row in the columns of a key. Null, which is no such value, stands behind them.
type tuple [api.MaxColumns]api.Value

// tuples returns the values of rows in some columns, but for those rows that have a null there.
func tuples(rows []api.Row, cols []int) []tuple {
	var list []tuple
	for _, row := range rows {
		if t, ok := tupleOf(row, cols); ok {
			list = append(list, t)
		}
	}
	return list
}

func tupleOf(row api.Row, cols []int) (tuple, bool) {
	var t tuple
	for i, c := range cols {
		if row[c].Kind == api.KindNull {
			return tuple{}, false
		}
		t[i] = row[c]
	}
	return t, true
}

// keysHold returns whether the keys of a table hold for its rows.
func keysHold(t api.Table, rows []api.Row) bool {
	return all(t.Keys, func(key []int) bool { return differ(tuples(rows, key)) })
}

// refsHold returns whether the references of a table of the scheme hold.
func refsHold(s api.Scheme, d api.Data, n int) bool {
	return all(s[n].Refs, func(r api.Ref) bool {
		isThere := within(tuples(d[r.Table], s[r.Table].Keys[r.Key]))
		return all(tuples(d[n], r.Cols), isThere)
	})
}
