package scheme_test

import (
	"slices"
	"testing"

	"jointer/api"
	"jointer/scheme"
)

// The functions of this file call those of the package, hold what these return against the reference, and return it. They count the errors that came.

// tally counts what the functions returned, by their names.
type tally map[string]map[api.Errno]int

var calls = tally{}

func (y tally) add(name string, e api.Errno) {
	if y[name] == nil {
		y[name] = map[api.Errno]int{}
	}
	y[name][e]++
}

// valid checks Valid and ValidData, and returns the latter.
func valid(t *testing.T, s api.Scheme, d api.Data) bool {
	t.Helper()
	gs, gd := roomy(s), roomy(d)
	want, wantData := refValid(s), refValidData(s, d)
	if got := scheme.Valid(gs); got != want {
		t.Errorf("Valid(%+v) is %v", s, got)
	}
	if got := scheme.ValidData(gs, gd); got != wantData {
		t.Errorf("ValidData(%+v, %+v) is %v", s, d, got)
	}
	checkMemory(t, []any{gs, gd}, []any{s, d})
	return wantData
}

func find(t *testing.T, s api.Scheme, table string) (int, bool) {
	t.Helper()
	given := roomy(s)
	n, ok := scheme.Find(given, table)
	want := refFind(s, table)
	if !refValid(s) {
		want = -1
	}
	if n != max(want, 0) || ok != (want >= 0) {
		t.Errorf("Find(%+v, %q) is %d, %v; want %d", s, table, n, ok, want)
	}
	checkMemory(t, []any{given}, []any{s})
	return n, ok
}

// checkBoth checks a scheme and data that a function returned.
func checkBoth(t *testing.T, what string, arg any, s api.Scheme, d api.Data, e api.Errno, wantScheme api.Scheme, wantData api.Data, want api.Errno) {
	t.Helper()
	calls.add(what, e)
	if e != want || !same(s, wantScheme) || !same(d, wantData) {
		t.Errorf("%s %+v is %+v, %+v, %v; want %+v, %+v, %v", what, arg, s, d, e, wantScheme, wantData, want)
	}
	if !refValidData(s, d) { // P7.5, and R2: no tables with no data are valid, too
		t.Errorf("%s %+v: what is returned is not valid: %+v, %+v", what, arg, s, d)
	}
}

func create(t *testing.T, s api.Scheme, d api.Data, x definition) (api.Scheme, api.Data, api.Errno) {
	t.Helper()
	gs, gd, gx := roomy(s), roomy(d), roomy(x)
	as, ad, e := scheme.Create(gs, gd, gx.Table, gx.Cols, gx.Keys, gx.Refs)
	checkMemory(t, []any{gs, gd, gx}, []any{s, d, x}, as, ad)
	made, want := refCreate(s, d, x)
	var ws api.Scheme
	var wd api.Data
	if want == api.OK {
		ws, wd = append(slices.Clone(s), made), append(slices.Clone(d), nil)
	}
	checkBoth(t, "Create", x, as, ad, e, ws, wd, want)
	return as, ad, e
}

func drop(t *testing.T, s api.Scheme, d api.Data, table string) (api.Scheme, api.Data, api.Errno) {
	t.Helper()
	gs, gd := roomy(s), roomy(d)
	as, ad, e := scheme.Drop(gs, gd, table)
	checkMemory(t, []any{gs, gd}, []any{s, d}, as, ad)
	ws, want := refDrop(s, d, table)
	var wd api.Data
	if want == api.OK {
		n := refFind(s, table)
		wd = append(slices.Clone(d[:n]), d[n+1:]...)
	}
	checkBoth(t, "Drop", table, as, ad, e, ws, wd, want)
	return as, ad, e
}

// index checks AddIndex or, if without holds, DropIndex.
func index(t *testing.T, s api.Scheme, table, column string, without bool) (api.Scheme, api.Errno) {
	t.Helper()
	what, call := "AddIndex", scheme.AddIndex
	if without {
		what, call = "DropIndex", scheme.DropIndex
	}
	given := roomy(s)
	as, e := call(given, table, column)
	checkMemory(t, []any{given}, []any{s}, as)
	list, want := refIndexes(s, table, column, without)
	var ws api.Scheme
	if want == api.OK {
		ws = slices.Clone(s)
		ws[refFind(s, table)].Indexes = list
	}
	checkBoth(t, what, []string{table, column}, as, make(api.Data, len(as)), e, ws, make(api.Data, len(ws)), want)
	return as, e
}

// changed checks the data that Insert or Delete returned.
func changed(t *testing.T, what string, s api.Scheme, d api.Data, table string, got api.Data, e api.Errno, rows []api.Row, want api.Errno) {
	t.Helper()
	var wd api.Data
	var of api.Scheme
	if want == api.OK {
		of, wd = s, slices.Clone(d)
		wd[refFind(s, table)] = rows
	}
	checkBoth(t, what, table, of, got, e, of, wd, want)
}

func insert(t *testing.T, s api.Scheme, d api.Data, table string, rows ...api.Row) (api.Data, api.Errno) {
	t.Helper()
	gs, gd, gr := roomy(s), roomy(d), roomy(rows)
	got, e := scheme.Insert(gs, gd, table, gr)
	checkMemory(t, []any{gs, gd, gr}, []any{s, d, rows}, got)
	after, want := refInsert(s, d, table, rows)
	changed(t, "Insert", s, d, table, got, e, after, want)
	return got, e
}

func remove(t *testing.T, s api.Scheme, d api.Data, table string, gone ...bool) (api.Data, api.Errno) {
	t.Helper()
	gs, gd, gg := roomy(s), roomy(d), roomy(gone)
	got, e := scheme.Delete(gs, gd, table, gg)
	checkMemory(t, []any{gs, gd, gg}, []any{s, d, gone}, got)
	after, want := refDelete(s, d, table, gone)
	changed(t, "Delete", s, d, table, got, e, after, want)
	return got, e
}
