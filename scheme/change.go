package scheme

import (
	"slices"

	"jointer/api"
)

func copyScheme(s api.Scheme) api.Scheme { return each(s, copyTable) }

func copyTable(t api.Table) api.Table {
	t.Cols = slices.Clone(t.Cols)
	t.Keys = each(t.Keys, slices.Clone[[]int])
	t.Refs = each(t.Refs, copyRef)
	t.Indexes = slices.Clone(t.Indexes)
	return t
}

func copyRef(r api.Ref) api.Ref {
	r.Cols = slices.Clone(r.Cols)
	return r
}

func copyData(d api.Data) api.Data { return each(d, copyRows) }

func copyRows(rows []api.Row) []api.Row { return each(rows, slices.Clone[api.Row]) }

// findTable returns the number of a table of a scheme with its data.
func findTable(s api.Scheme, d api.Data, table string) (int, api.Errno) {
	if !ValidData(s, d) {
		return 0, api.ErrArg
	}
	n := number(s, table)
	if n < 0 {
		return 0, api.ErrNone
	}
	return n, api.OK
}

// Drop returns scheme and data without a table.
func Drop(s api.Scheme, d api.Data, table string) (api.Scheme, api.Data, api.Errno) {
	n, e := findTable(s, d, table)
	if e != api.OK {
		return nil, nil, e
	}
	rest := slices.Delete(copyScheme(s), n, n+1)
	for _, t := range rest {
		for i := range t.Refs {
			switch r := &t.Refs[i]; {
			case r.Table == n:
				return nil, nil, api.ErrInUse
			case r.Table > n:
				r.Table--
			}
		}
	}
	return rest, slices.Delete(copyData(d), n, n+1), api.OK
}

// AddIndex returns the scheme with one more index.
func AddIndex(s api.Scheme, table, column string) (api.Scheme, api.Errno) {
	n, col, e := findColumn(s, table, column)
	if e != api.OK {
		return nil, e
	}
	at, found := slices.BinarySearch(s[n].Indexes, col)
	if found {
		return nil, api.ErrTwice
	}
	made := copyScheme(s)
	made[n].Indexes = slices.Insert(made[n].Indexes, at, col)
	return made, api.OK
}

// DropIndex returns the scheme without an index.
func DropIndex(s api.Scheme, table, column string) (api.Scheme, api.Errno) {
	n, col, e := findColumn(s, table, column)
	if e != api.OK {
		return nil, e
	}
	at, found := slices.BinarySearch(s[n].Indexes, col)
	if !found {
		return nil, api.ErrNone
	}
	made := copyScheme(s)
	made[n].Indexes = slices.Delete(made[n].Indexes, at, at+1)
	return made, api.OK
}

// findColumn returns the numbers of a table and of its column.
func findColumn(s api.Scheme, table, column string) (n, col int, e api.Errno) {
	if !Valid(s) {
		return 0, 0, api.ErrArg
	}
	if n = number(s, table); n < 0 {
		return 0, 0, api.ErrNone
	}
	if col = columnNumber(s[n].Cols, column); col < 0 {
		return 0, 0, api.ErrNone
	}
	return n, col, api.OK
}

// Insert returns the data with more rows in a table.
func Insert(s api.Scheme, d api.Data, table string, rows []api.Row) (api.Data, api.Errno) {
	n, e := findTable(s, d, table)
	if e != api.OK {
		return nil, e
	}
	for _, row := range rows {
		if e := rowError(s[n].Cols, row); e != api.OK {
			return nil, e
		}
	}
	if len(d[n])+len(rows) > api.MaxRows {
		return nil, api.ErrFull
	}
	made := copyData(d)
	made[n] = append(made[n], copyRows(rows)...)
	switch {
	case !keysHold(s[n], made[n]):
		return nil, api.ErrKey
	case !refsHold(s, made, n):
		return nil, api.ErrRef
	}
	return made, api.OK
}

// Delete returns the data without some rows of a table.
func Delete(s api.Scheme, d api.Data, table string, gone []bool) (api.Data, api.Errno) {
	n, e := findTable(s, d, table)
	if e != api.OK {
		return nil, e
	}
	if len(gone) != len(d[n]) {
		return nil, api.ErrWidth
	}
	made := copyData(d)
	made[n] = nil
	for i, row := range d[n] {
		if !gone[i] {
			made[n] = append(made[n], slices.Clone(row))
		}
	}
	for m := range s {
		if !refsHold(s, made, m) {
			return nil, api.ErrRef
		}
	}
	return made, api.OK
}
