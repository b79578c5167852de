package scheme_test

import (
	"slices"
	"strings"
	"testing"

	"jointer/api"
)

// P7.3

// TestIndexes makes all sets of indexes, and takes each index away.
func TestIndexes(t *testing.T) {
	cols := names("a", "b", "c")
	for set := range 8 {
		s := api.Scheme{three("t"), three("u"), three("v")}
		for i := range cols {
			if set>>i&1 == 1 {
				s[1].Indexes = append(s[1].Indexes, i)
			}
		}
		for i, name := range cols {
			has := set>>i&1 == 1
			if _, e := index(t, s, "u", name, false); (e == api.OK) == has || has && e != api.ErrTwice {
				t.Errorf("AddIndex %s to %v is %v", name, s[1].Indexes, e)
			}
			if _, e := index(t, s, "u", name, true); (e == api.OK) != has || !has && e != api.ErrNone {
				t.Errorf("DropIndex %s from %v is %v", name, s[1].Indexes, e)
			}
		}
	}
}

func TestIndexErrors(t *testing.T) {
	s, _ := base()
	for _, without := range []bool{false, true} {
		for _, x := range [][]string{{"v", "a"}, {"", "a"}, {"t", "x"}, {"t", ""}, {"u", "a"}, {"T", "a"}} {
			if _, e := index(t, s, x[0], x[1], without); e != api.ErrNone {
				t.Errorf("%v: %v", x, e)
			}
			if _, e := index(t, append(s, s[0]), x[0], x[1], without); e != api.ErrArg {
				t.Errorf("%v of a scheme that is not valid: %v", x, e)
			}
		}
		if _, e := index(t, nil, "t", "a", without); e != api.ErrNone {
			t.Errorf("no tables: %v", e)
		}
		if _, e := index(t, append(s, s[0]), "t", "b", without); e != api.ErrArg {
			t.Errorf("a scheme that is not valid: %v", e)
		}
	}
}

// P7.4

// isInserted calls Insert, and checks its error.
func isInserted(t *testing.T, what string, s api.Scheme, d api.Data, table string, want api.Errno, rows ...api.Row) {
	t.Helper()
	if _, e := insert(t, s, d, table, rows...); e != want {
		t.Errorf("%s: Insert %v is %v; want %v", what, rows, e, want)
	}
}

// TestInsertOrder joins rows with different errors: the first error of the first row that has one is returned.
func TestInsertOrder(t *testing.T) {
	s, d := base()
	s[1].Cols[1].NotNull = true
	s[1].Keys = [][]int{{0}}
	rows := []struct {
		r api.Row
		e api.Errno
	}{
		{row(), api.ErrWidth}, {row(word("p")), api.ErrWidth}, {row(word("p"), num(1), null), api.ErrWidth}, {row(num(1), null, null), api.ErrWidth},
		{row(num(1), num(1)), api.ErrType}, {row(yes, null), api.ErrType}, {row(word("p"), word("1")), api.ErrType}, {row(null, api.Value{Int: 1}), api.ErrType}, {row(api.Value{Text: "p"}, num(10)), api.ErrType}, {row(word(strings.Repeat("p", 101)), null), api.ErrType},
		{row(word("p"), null), api.ErrNull}, {row(null, null), api.ErrNull},
		{row(word("pppppppppp"), null), api.ErrRange}, {row(word("pppppppppp"), num(1)), api.ErrRange}, {row(null, num(10)), api.ErrRange}, {row(null, num(-10)), api.ErrRange}, {row(word("pppppppppp"), word("1")), api.ErrRange},
	}
	for _, a := range rows {
		isInserted(t, "one row", s, d, "u", a.e, a.r)
		for _, b := range rows {
			isInserted(t, "two rows", s, d, "u", a.e, row(null, num(9)), a.r, b.r)
		}
		isInserted(t, "a key and a reference", s, d, "u", a.e, row(word("p"), num(7)), a.r)
		isInserted(t, "too many rows", s, d, "u", a.e, append(many(1000, func(int) api.Row { return row(null, num(9)) }), a.r)...)
		isInserted(t, "no table", s, d, "v", api.ErrNone, a.r)
		isInserted(t, "not valid", s, d[:1], "u", api.ErrArg, a.r)
		isInserted(t, "neither", s, d[:1], "v", api.ErrArg, a.r)
	}
	isInserted(t, "a key", s, d, "u", api.ErrKey, row(word("p"), num(1)))
	isInserted(t, "a key before a reference", s, d, "u", api.ErrKey, row(word("x"), num(1)), row(word("p"), num(1)))
	isInserted(t, "a reference", s, d, "u", api.ErrRef, row(word("q"), num(1)))
	isInserted(t, "a null in a reference", s, d, "u", api.OK, row(null, num(7)))
	isInserted(t, "full before a key", s, d, "u", api.ErrFull, many(1000, func(int) api.Row { return row(word("p"), num(2)) })...)
	isInserted(t, "nothing", s, d, "u", api.OK)
	isInserted(t, "nothing into no table", s, d, "", api.ErrNone)
}

// TestInsertPlace looks for the rows behind those of their table.
func TestInsertPlace(t *testing.T) {
	s, d := base()
	got, e := insert(t, s, d, "t", row(num(3), word("s")), row(num(2), word("r")))
	want := []api.Row{row(num(1), word("p")), row(null, word("q")), row(num(3), word("s")), row(num(2), word("r"))}
	if e != api.OK || !same(got[0], want) || !same(got[1], d[1]) {
		t.Errorf("the rows are %v, %v", got, e)
	}
	// A row can be referred to as soon as it is there.
	isInserted(t, "before", s, d, "u", api.ErrRef, row(word("r"), num(2)))
	isInserted(t, "after", s, got, "u", api.OK, row(word("r"), num(2)))
}

// TestInsertKeys holds each key of a table, and not only the first one.
func TestInsertKeys(t *testing.T) {
	s, d := base()
	isInserted(t, "the second key", s, d, "t", api.ErrKey, row(num(2), word("q")))
	isInserted(t, "two new rows", s, d, "t", api.ErrKey, row(num(2), word("z")), row(num(3), word("z")))
	isInserted(t, "nulls", s, d, "t", api.OK, row(num(1), null), row(num(1), null), row(null, null), row(null, null))
	s[0].Keys = s[0].Keys[:1]
	isInserted(t, "the first key", s, d, "t", api.ErrKey, row(num(1), word("p")))
	isInserted(t, "other rows", s, d, "t", api.OK, row(num(2), word("q")), row(num(2), word("p")), row(null, word("q")))
}

// TestInsertLimit tries numbers of rows on both sides of the limit; a table without columns may have as many rows as others, all alike.
func TestInsertLimit(t *testing.T) {
	s, d := api.Scheme{{Name: "t"}}, api.Data{nil}
	isInserted(t, "1000", s, d, "t", api.OK, make([]api.Row, 1000)...)
	isInserted(t, "1001", s, d, "t", api.ErrFull, make([]api.Row, 1001)...)
	d[0] = make([]api.Row, 999)
	isInserted(t, "999 and 1", s, d, "t", api.OK, nil)
	isInserted(t, "999 and 2", s, d, "t", api.ErrFull, nil, nil)
	d[0] = make([]api.Row, 1000)
	isInserted(t, "1000 and none", s, d, "t", api.OK)
	isInserted(t, "1000 and 1", s, d, "t", api.ErrFull, row())
	d[0] = make([]api.Row, 1001)
	isInserted(t, "already too many", s, d, "t", api.ErrArg)
}

// TestDelete takes each set of rows from tables that others refer to.
func TestDelete(t *testing.T) {
	s, d := base()
	s = append(s, api.Table{Name: "v", Cols: []api.Column{textColumn("x")}, Refs: []api.Ref{{Cols: []int{0}, Key: 1}}})
	d = append(d, []api.Row{row(word("q")), row(null)})
	d[0] = append(d[0], row(num(2), word("r")))
	for set := range 8 {
		gone := many(3, func(i int) bool { return set>>i&1 == 1 })
		want := api.OK
		if gone[0] || gone[1] {
			want = api.ErrRef
		}
		got, e := remove(t, s, d, "t", gone...)
		if e != want || e == api.OK && len(got[0]) != 3-set/4 {
			t.Errorf("Delete %v is %v, %v; want %v", gone, got, e, want)
		}
	}
	for _, x := range []struct {
		table string
		gone  []bool
		e     api.Errno
	}{
		{"u", []bool{true}, api.OK}, {"v", []bool{true, true}, api.OK}, {"v", []bool{false, true}, api.OK}, {"v", []bool{true, false}, api.OK},
		{"w", nil, api.ErrNone}, {"", []bool{true}, api.ErrNone}, {"t", nil, api.ErrWidth}, {"t", []bool{true, true}, api.ErrWidth}, {"t", many(4, func(int) bool { return false }), api.ErrWidth}, {"u", nil, api.ErrWidth},
	} {
		if _, e := remove(t, s, d, x.table, x.gone...); e != x.e {
			t.Errorf("Delete %v of %q is %v; want %v", x.gone, x.table, e, x.e)
		}
		if _, e := remove(t, s, slices.Concat(d, d), x.table, x.gone...); e != api.ErrArg {
			t.Errorf("Delete %v of %q with data that are not valid is %v", x.gone, x.table, e)
		}
	}
	rest, _ := remove(t, s, d, "v", true, false)
	rest, e := remove(t, s, rest, "t", false, true, true)
	if e != api.OK || !same(rest, api.Data{{row(num(1), word("p"))}, {row(word("p"), num(1))}, {row(null)}}) {
		t.Errorf("after the last reference: %v, %v", rest, e)
	}
}
