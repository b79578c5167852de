package scheme_test

import (
	"fmt"
	"math"
	"slices"
	"strings"
	"testing"

	"jointer/api"
	"jointer/scheme"
)

// many returns n copies of something, each changed by its number.
func many[T any](n int, of func(i int) T) []T {
	l := make([]T, n)
	for i := range l {
		l[i] = of(i)
	}
	return l
}

// lists returns all lists of up to most elements of l.
func lists[T any](most int, l ...T) [][]T {
	all := [][]T{nil}
	for from := 0; most > 0; most-- {
		to := len(all)
		for _, list := range all[from:to] {
			for _, x := range l {
				all = append(all, append(slices.Clone(list), x))
			}
		}
		from = to
	}
	return all
}

func intColumn(name string) api.Column {
	return api.Column{Name: name, Kind: api.KindInt, Lo: -9, Hi: 9}
}

func textColumn(name string) api.Column {
	return api.Column{Name: name, Kind: api.KindText, Hi: 9}
}

func boolColumn(name string) api.Column { return api.Column{Name: name, Kind: api.KindBool} }

// three returns a table with three columns of two kinds.
func three(name string) api.Table {
	return api.Table{Name: name, Cols: []api.Column{intColumn("a"), intColumn("b"), textColumn("c")}}
}

// isValid checks a scheme without data, and whether it is valid.
func isValid(t *testing.T, what string, s api.Scheme, want bool) {
	t.Helper()
	if valid(t, s, make(api.Data, len(s))) != want || scheme.Valid(s) != want {
		t.Errorf("%s: the scheme %+v should be valid: %v", what, s, want)
	}
}

// P7.1

// TestColumnLists tries all short lists as a key, as indexes, and as the columns of a reference.
func TestColumnLists(t *testing.T) {
	count := 0
	for _, l := range lists(4, -1, 0, 1, 2, 3) {
		s := api.Scheme{three("t"), three("u")}
		s[0].Keys = [][]int{l}
		isValid(t, "key", s, refRising(s[0], l) && len(l) > 0)
		s[0].Keys = [][]int{{1}, l}
		isValid(t, "second key", s, refRising(s[0], l) && len(l) > 0)
		s[0].Keys, s[0].Indexes = nil, l
		isValid(t, "indexes", s, refRising(s[0], l))
		for _, key := range [][]int{{0}, {2}, {0, 1}, {1, 2}, {0, 1, 2}} {
			s := api.Scheme{three("t"), three("u")}
			s[0].Keys = [][]int{{0, 2}, key}
			s[1].Refs = []api.Ref{{Cols: l, Table: 0, Key: 1}}
			want := refRef(s[1], s[0], key, l)
			isValid(t, "reference", s, want)
			if want {
				count++
			}
		}
	}
	if count != 2+1+2+2+2 {
		t.Errorf("%d references fit", count)
	}
}

// TestRefs tries numbers of tables and keys.
func TestRefs(t *testing.T) {
	for table := -1; table <= 3; table++ {
		for key := -1; key <= 3; key++ {
			s := api.Scheme{three("t"), three("u"), three("v")}
			s[0].Keys = [][]int{{0}, {1}}
			s[1].Keys = [][]int{{0}}
			s[2].Keys = [][]int{{0}}
			s[1].Refs = []api.Ref{{Cols: []int{1}, Table: table, Key: key}}
			isValid(t, "of the second table", s, table == 0 && (key == 0 || key == 1))
			s[1].Refs, s[2].Refs = nil, []api.Ref{{Cols: []int{0}}, {Cols: []int{1}, Table: table, Key: key}}
			isValid(t, "of the third table", s, table == 0 && (key == 0 || key == 1) || table == 1 && key == 0)
			s[2].Refs, s[0].Refs = nil, []api.Ref{{Cols: []int{1}, Table: table, Key: key}}
			isValid(t, "of the first table", s, false)
		}
	}
	long := api.Ref{Cols: many(10000, func(int) int { return 0 })}
	s := api.Scheme{three("t"), three("u")}
	s[0].Keys, s[1].Refs = [][]int{{0}}, []api.Ref{long}
	isValid(t, "a long list", s, false)
}

// TestColumnRanges tries kinds with numbers around their limits.
func TestColumnRanges(t *testing.T) {
	ends := []int64{math.MinInt64, math.MinInt64 + 1, -101, -1, 0, 1, 99, 100, 101, math.MaxInt64 - 1, math.MaxInt64}
	for kind := range api.Kind(6) {
		for _, lo := range ends {
			for _, hi := range ends {
				want := kind == api.KindInt && lo <= hi || kind == api.KindText && lo == 0 && 0 <= hi && hi <= 100 || kind == api.KindBool && lo == 0 && hi == 0
				isValid(t, "range", api.Scheme{{Name: "t", Cols: []api.Column{{Name: "a", Kind: kind, Lo: lo, Hi: hi, NotNull: lo == hi}}}}, want)
			}
		}
	}
	isValid(t, "kind", api.Scheme{{Name: "t", Cols: []api.Column{{Name: "a", Kind: 255}}}}, false)
}

func TestNames(t *testing.T) {
	for name, want := range map[string]bool{"a": true, "_": true, "_1": true, "zz9": true, strings.Repeat("a", 20): true, strings.Repeat("a", 21): false, "": false, "A": false, "1": false, "a b": false, "a.b": false, "select": false, "key": false, "keys": true, "\xff": false} {
		isValid(t, "table", api.Scheme{{Name: name}}, want)
		isValid(t, "second table", api.Scheme{{Name: "t"}, {Name: name}}, want)
		isValid(t, "column", api.Scheme{{Name: "t", Cols: []api.Column{intColumn(name)}}}, want)
		isValid(t, "second column", api.Scheme{{Name: "t", Cols: []api.Column{textColumn("t"), boolColumn(name)}}}, want)
	}
	isValid(t, "tables with one name", api.Scheme{{Name: "t"}, {Name: "u"}, {Name: "t"}}, false)
	isValid(t, "columns with one name", api.Scheme{{Name: "t", Cols: []api.Column{intColumn("a"), intColumn("b"), textColumn("a")}}}, false)
	isValid(t, "columns of two tables", api.Scheme{three("t"), three("a")}, true)
}

// TestSchemeLimits tries numbers from both sides of the limits.
func TestSchemeLimits(t *testing.T) {
	name := func(i int) string { return fmt.Sprint("x", i) }
	for n := range 20 {
		isValid(t, "tables", many(n, func(i int) api.Table { return api.Table{Name: name(i)} }), n <= 16)
		cols := many(n, func(i int) api.Column { return intColumn(name(i)) })
		isValid(t, "columns", api.Scheme{{Name: "t", Cols: cols}}, n <= 8)
		s := api.Scheme{three("t"), three("u")}
		s[0].Keys = many(n, func(i int) []int { return []int{i % 3} })
		isValid(t, "keys", s, n <= 4)
		s[0].Keys = [][]int{{0}}
		s[1].Refs = many(n, func(i int) api.Ref { return api.Ref{Cols: []int{i % 2}} })
		isValid(t, "references", s, n <= 4)
	}
	eight := api.Table{Name: "t", Cols: many(8, func(i int) api.Column { return intColumn(name(i)) }), Keys: [][]int{{0, 1, 2, 3, 4, 5, 6, 7}}, Indexes: []int{0, 1, 2, 3, 4, 5, 6, 7}}
	isValid(t, "a key of all columns", api.Scheme{eight}, true)
}

func TestFind(t *testing.T) {
	s := api.Scheme{three("t"), three("u"), three("v")}
	for i, name := range []string{"t", "u", "v"} {
		if n, ok := find(t, s, name); n != i || !ok {
			t.Errorf("%s is %d, %v", name, n, ok)
		}
	}
	for _, name := range []string{"", "a", "T", "w", "select"} {
		find(t, s, name)
		find(t, nil, name)
		find(t, api.Scheme{{Name: name}}, name)
	}
	find(t, append(s, three("t")), "u")
}

// isValidData checks data for a scheme.
func isValidData(t *testing.T, what string, s api.Scheme, d api.Data, want bool) {
	t.Helper()
	if valid(t, s, d) != want {
		t.Errorf("%s: the data %+v should be valid: %v", what, d, want)
	}
}

// TestValues tries all values in all kinds of columns.
func TestValues(t *testing.T) {
	values := append(slices.Clone(wrongValues), null, no, yes, num(0), num(1), num(-9), num(-10), num(9), num(10), word(""), word("0"), word("123456789"), word("1234567890"), word(strings.Repeat("é", 50)))
	for _, c := range []api.Column{intColumn("a"), textColumn("a"), boolColumn("a"), {Name: "a", Kind: api.KindText, Hi: 100}, {Name: "a", Kind: api.KindText}, {Name: "a", Kind: api.KindInt, Lo: math.MinInt64, Hi: math.MaxInt64}, {Name: "a", Kind: api.KindInt, Lo: 1, Hi: 1}} {
		for _, v := range values {
			for _, c.NotNull = range []bool{false, true} {
				s := api.Scheme{{Name: "t", Cols: []api.Column{boolColumn("b"), c}}}
				valid(t, s, api.Data{{row(no, v)}})
				insert(t, s, api.Data{{row(null, pickFit(c))}}, "t", row(yes, v))
			}
		}
	}
	s := api.Scheme{three("t")}
	good := row(num(1), num(2), word("x"))
	isValidData(t, "a row", s, api.Data{{good}}, true)
	isValidData(t, "a short row", s, api.Data{{good, good[:2]}}, false)
	isValidData(t, "a long row", s, api.Data{{good, append(good[:3:3], null)}}, false)
	isValidData(t, "no values", s, api.Data{{good, nil}}, false)
	isValidData(t, "no lists", s, nil, false)
	isValidData(t, "too many lists", s, api.Data{nil, nil}, false)
	isValidData(t, "no scheme", nil, nil, true)
	isValidData(t, "a list without a table", nil, api.Data{nil}, false)
	isValidData(t, "a scheme that is not valid", api.Scheme{{}}, api.Data{nil}, false)
}

// pickFit returns a value that a column may have, whichever its kind.
func pickFit(c api.Column) api.Value {
	switch c.Kind {
	case api.KindInt:
		return num(c.Lo)
	case api.KindText:
		return word("")
	}
	return no
}

// TestKeys tries all lists of up to three rows, with nulls and without.
func TestKeys(t *testing.T) {
	some := []api.Value{null, num(1), num(2)}
	var rows []api.Row
	for _, a := range some {
		for _, b := range some {
			rows = append(rows, row(a, b, null))
		}
	}
	for _, keys := range [][][]int{nil, {{0}}, {{1}}, {{0, 1}}, {{0}, {1}}, {{0, 1}, {1}}, {{0, 1, 2}}, {{2}}} {
		s := api.Scheme{three("t")}
		s[0].Keys = keys
		for _, l := range lists(3, rows...) {
			valid(t, s, api.Data{l})
		}
	}
	// The example of the chapter.
	s := api.Scheme{three("t")}
	s[0].Keys = [][]int{{0, 1}}
	one, both := row(num(1), null, null), row(num(1), num(2), null)
	isValidData(t, "nulls", s, api.Data{{one, one, row(null, null, null), row(null, null, null), both}}, true)
	isValidData(t, "no nulls", s, api.Data{{both, one, both}}, false)
}

// TestKeysOfAllColumns tries rows that differ in one place only, in a key of as many columns as there can be.
func TestKeysOfAllColumns(t *testing.T) {
	table := api.Table{Name: "t", Cols: many(8, func(i int) api.Column { return textColumn(fmt.Sprint("x", i)) }), Keys: [][]int{{0, 1, 2, 3, 4, 5, 6, 7}}}
	base := many(8, func(i int) api.Value { return word("a") })
	for i := range 8 {
		other := slices.Clone(base)
		other[i] = word("b")
		isValidData(t, "other", api.Scheme{table}, api.Data{{base, other}}, true)
		isValidData(t, "twice", api.Scheme{table}, api.Data{{base, other, other}}, false)
		other[i] = null
		isValidData(t, "null", api.Scheme{table}, api.Data{{base, other, other}}, true)
	}
	// Texts that are the same when they are joined.
	two := api.Table{Name: "t", Cols: []api.Column{textColumn("a"), textColumn("b")}, Keys: [][]int{{0, 1}}}
	isValidData(t, "joined", api.Scheme{two}, api.Data{{row(word("ab"), word("")), row(word("a"), word("b")), row(word(""), word("ab"))}}, true)
}

// TestReferences tries all pairs of short lists of rows, for a reference whose columns have another order than the key.
func TestReferences(t *testing.T) {
	s := api.Scheme{three("t"), three("u")}
	s[0].Keys = [][]int{{1}, {0, 1}}
	s[1].Refs = []api.Ref{{Cols: []int{1, 0}, Key: 1}}
	some := []api.Value{null, num(1), num(2)}
	var rows []api.Row
	for _, a := range some {
		for _, b := range some {
			rows = append(rows, row(a, b, null))
		}
	}
	for _, to := range lists(2, rows...) {
		for _, from := range lists(2, rows...) {
			valid(t, s, api.Data{to, from})
		}
	}
	isValidData(t, "turned", s, api.Data{{row(num(1), num(2), null)}, {row(num(2), num(1), null)}}, true)
	isValidData(t, "not turned", s, api.Data{{row(num(1), num(2), null)}, {row(num(1), num(2), null)}}, false)
	isValidData(t, "null", s, api.Data{nil, {row(num(1), null, null), row(null, num(1), null)}}, true)
	isValidData(t, "null is no row", s, api.Data{{row(num(1), null, null)}, {row(num(3), num(1), null)}}, false)
}

// TestRows tries numbers of rows on both sides of the limit.
func TestRows(t *testing.T) {
	s := api.Scheme{{Name: "t"}, three("u")}
	for _, n := range []int{0, 999, 1000, 1001, 5000} {
		isValidData(t, "rows without values", s, api.Data{make([]api.Row, n), nil}, n <= 1000)
		isValidData(t, "rows", s, api.Data{nil, many(n, func(int) api.Row { return row(null, null, null) })}, n <= 1000)
	}
}
