package scheme

import (
	"math"
	"slices"

	"jointer/api"
	"jointer/lex"
	"jointer/show"
)

// Create returns scheme and data with one more table.
func Create(s api.Scheme, d api.Data, table string, cols []api.ColumnDef, keys [][]string, refs []api.RefDef) (api.Scheme, api.Data, api.Errno) {
	if !ValidData(s, d) || !canStand(table, cols, keys, refs) {
		return nil, nil, api.ErrArg
	}
	if number(s, table) >= 0 {
		return nil, nil, api.ErrTwice
	}
	if len(s) == api.MaxTables || len(cols) > api.MaxColumns || len(keys) > api.MaxLists || len(refs) > api.MaxLists {
		return nil, nil, api.ErrFull
	}
	b := builder{before: s, table: api.Table{Name: table}}
	build(&b, cols, b.addColumn)
	build(&b, keys, b.addKey)
	build(&b, refs, b.addRef)
	if b.err != api.OK {
		return nil, nil, b.err
	}
	return append(copyScheme(s), b.table), append(copyData(d), nil), api.OK
}

// canStand returns whether a table's name and the parts of its definition can stand in a valid command. Each part is asked for alone, since the number of nodes does not count.
func canStand(table string, cols []api.ColumnDef, keys [][]string, refs []api.RefDef) bool {
	isColumn := func(def api.ColumnDef) bool {
		return show.ValidCommand(api.Command{Kind: api.CommandCreateTable, Table: table, Cols: []api.ColumnDef{def}})
	}
	isRef := func(def api.RefDef) bool { return lex.IsName(def.Table) && areNames(def.Cols) && areNames(def.Keys) }
	return lex.IsName(table) && all(cols, isColumn) && all(keys, areNames) && all(refs, isRef)
}

func areNames(list []string) bool {
	return len(list) > 0 && all(list, lex.IsName)
}

// builder makes a table that comes behind others. It goes on until there is an error.
type builder struct {
	before api.Scheme
	table  api.Table
	err    api.Errno
}

// build makes a part of the table of each element of a list.
func build[T any](b *builder, list []T, add func(T) api.Errno) {
	for _, x := range list {
		if b.err != api.OK {
			return
		}
		b.err = add(x)
	}
}

func (b *builder) addColumn(def api.ColumnDef) api.Errno {
	if columnNumber(b.table.Cols, def.Name) >= 0 {
		return api.ErrTwice
	}
	b.table.Cols = append(b.table.Cols, columnOf(def))
	return api.OK
}

// columnOf returns the column that is described.
func columnOf(def api.ColumnDef) api.Column {
	c := api.Column{Name: def.Name, Kind: api.KindInt, NotNull: def.NotNull, Lo: def.Lo, Hi: def.Hi}
	switch def.Type {
	case api.TypeInt:
		if !def.HasRange {
			c.Lo, c.Hi = math.MinInt32, math.MaxInt32
		}
	case api.TypeBig:
		c.Lo, c.Hi = math.MinInt64, math.MaxInt64
	case api.TypeText:
		c.Kind = api.KindText
		if !def.HasRange {
			c.Hi = api.MaxText
		}
	case api.TypeBool:
		c.Kind = api.KindBool
	}
	return c
}

func (b *builder) addKey(names []string) api.Errno {
	key, e := columnsOf(b.table, names)
	if e == api.OK {
		b.table.Keys = append(b.table.Keys, slices.Sorted(slices.Values(key)))
	}
	return e
}

// columnsOf returns the columns of a table that have these names, which must be there, and all different.
func columnsOf(t api.Table, names []string) ([]int, api.Errno) {
	cols := numbers(t, names)
	switch {
	case slices.Contains(cols, -1):
		return nil, api.ErrNone
	case !differ(cols):
		return nil, api.ErrTwice
	}
	return cols, api.OK
}

// numbers returns the numbers of the columns with these names, with -1 for a name that no column has.
func numbers(t api.Table, names []string) []int {
	return each(names, func(name string) int { return columnNumber(t.Cols, name) })
}

func (b *builder) addRef(def api.RefDef) api.Errno {
	r := api.Ref{Table: number(b.before, def.Table)}
	if r.Table < 0 {
		return api.ErrNone
	}
	cols, e := columnsOf(b.table, def.Cols)
	if e != api.OK {
		return e
	}
	if len(cols) != len(def.Keys) {
		return api.ErrWidth
	}
	to := b.before[r.Table]
	named := numbers(to, def.Keys)
	set := slices.Sorted(slices.Values(named)) // no key, if a name comes twice or is missing
	r.Key = slices.IndexFunc(to.Keys, func(key []int) bool { return slices.Equal(key, set) })
	if r.Key < 0 {
		return api.ErrNone
	}
	key := to.Keys[r.Key]
	r.Cols = each(key, func(c int) int { return cols[slices.Index(named, c)] })
	if !slices.Equal(kinds(b.table, r.Cols), kinds(to, key)) {
		return api.ErrType
	}
	b.table.Refs = append(b.table.Refs, r)
	return api.OK
}
