package bag_test

import (
	"slices"
	"testing"

	"jointer/api"
	"jointer/bag"
)

// R4: every check of this package gives lists with spare capacity, in which nothing may change, and goes over the memory of what is returned.

// junk stands in spare capacity.
var junk = api.Value{Kind: 77, Int: 77, Text: "junk"}

// roomy returns a list of its own with spare capacity.
func roomy[T any](l []T, spare T) []T {
	return append(append(make([]T, 0, len(l)+2), l...), spare, spare)[:len(l)]
}

// roomyRows returns rows of their own with spare capacity.
func roomyRows(rows []api.Row) []api.Row {
	l := roomy(rows, row(junk, junk))
	for i, r := range l[:cap(l)] {
		l[:cap(l)][i] = roomy(r, junk)
	}
	return l
}

// checkKept checks that a list that roomy returned is as it was.
func checkKept[T comparable](t *testing.T, given, l []T, spare T) {
	t.Helper()
	if want := roomy(l, spare); !slices.Equal(given[:cap(given)], want[:cap(want)]) {
		t.Errorf("the list %v was changed: %v", l, given[:cap(given)])
	}
}

// checkRowsKept checks that rows that roomyRows returned are as they were.
func checkRowsKept(t *testing.T, given, rows []api.Row) {
	t.Helper()
	want := roomyRows(rows)
	if !slices.EqualFunc(given[:cap(given)], want[:cap(want)], func(a, b api.Row) bool { return sameRow(a[:cap(a)], b[:cap(b)]) }) {
		t.Errorf("the rows %v were changed: %v", rows, given[:cap(given)])
	}
}

// overwrite changes all memory of some rows, spare capacity included, and checks that no two of them share any.
func overwrite(t *testing.T, rows []api.Row) {
	t.Helper()
	all := rows[:cap(rows)]
	fill := func(r api.Row, n int) {
		for i := range r[:cap(r)] {
			r[:cap(r)][i] = num(int64(-n - 1000))
		}
	}
	for i, r := range all {
		fill(r, i)
	}
	for i, r := range all {
		if slices.ContainsFunc(r[:cap(r)], func(v api.Value) bool { return v != num(int64(-i-1000)) }) {
			t.Errorf("the row number %d shares memory with another one", i)
		}
	}
	for i := range all {
		all[i] = row(junk)
	}
}

// checkRows checks a result, and then that no memory of the given lists, which are lists with what they were made of, is part of it.
func checkRows(t *testing.T, what string, got []api.Row, e api.Errno, want []api.Row, wantErr api.Errno, given ...[]api.Row) {
	t.Helper()
	if e != wantErr || !sameRows(got, want) {
		t.Errorf("%s of %v is %v, %v; want %v, %v", what, given, got, e, want, wantErr)
	}
	overwrite(t, got)
	for i := 0; i < len(given); i += 2 {
		checkRowsKept(t, given[i], given[i+1])
	}
}

// TestResultsApart calls each function twice on the same lists, and changes one result, and then the lists.
func TestResultsApart(t *testing.T) {
	rows := []api.Row{row(num(2), word("b")), row(null, word("a")), row(num(2), word("b")), row(num(1), null)}
	other := []api.Row{row(num(2), word("b")), row(num(3), word("c"))}
	keys := []api.Key{{Col: 0, Desc: true}}
	for name, call := range map[string]func(a, b []api.Row) ([]api.Row, api.Errno){
		"Sort":      func(a, _ []api.Row) ([]api.Row, api.Errno) { return bag.Sort(a, keys) },
		"Cut":       func(a, _ []api.Row) ([]api.Row, api.Errno) { return bag.Cut(a, keys, 1, 2) },
		"Distinct":  func(a, _ []api.Row) ([]api.Row, api.Errno) { return bag.Distinct(a) },
		"Union":     bag.Union,
		"Intersect": bag.Intersect,
		"Except":    bag.Except,
		"Group": func(a, _ []api.Row) ([]api.Row, api.Errno) {
			o := bag.Group(a, []int{1, 0}, []api.Agg{{Fn: api.AggRows}, {Fn: api.AggMax, Distinct: true}})
			return o.Rows, o.Err
		},
	} {
		a, b := roomyRows(rows), roomyRows(other)
		first, e := call(a, b)
		kept := cloneRows(first)
		if e != api.OK || len(first) == 0 {
			t.Fatalf("%s is %v, %v", name, first, e)
		}
		second, _ := call(a, b)
		overwrite(t, second)
		if !sameRows(first, kept) {
			t.Errorf("%s: two results share memory", name)
		}
		overwrite(t, a)
		overwrite(t, b)
		if !sameRows(first, kept) {
			t.Errorf("%s: the result shares memory with an argument", name)
		}
	}
}

func cloneRows(rows []api.Row) []api.Row {
	l := slices.Clone(rows)
	for i := range l {
		l[i] = slices.Clone(l[i])
	}
	return l
}
