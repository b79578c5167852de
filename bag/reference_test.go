package bag_test

import (
	"iter"
	"math/big"
	"slices"
	"strings"

	"jointer/api"
	"jointer/value"
)

// The functions of this file say what the chapter's sentences say, as literally as they can be said; they may take long.

var (
	null = api.Value{}
	no   = api.Value{Kind: api.KindBool}
	yes  = api.Value{Kind: api.KindBool, Int: 1}
)

func num(n int64) api.Value { return api.Value{Kind: api.KindInt, Int: n} }

func word(s string) api.Value { return api.Value{Kind: api.KindText, Text: s} }

func row(l ...api.Value) api.Row { return l }

// column returns a list of rows of one value.
func column(l ...api.Value) []api.Row {
	var rows []api.Row
	for _, v := range l {
		rows = append(rows, row(v))
	}
	return rows
}

// wrongValues are values that are not valid.
var wrongValues = []api.Value{
	{Int: 1}, {Int: -1}, {Text: "x"}, {Kind: api.KindInt, Text: "1"}, {Kind: api.KindInt, Int: 1, Text: "x"}, {Kind: api.KindText, Int: 1}, {Kind: api.KindText, Int: 1, Text: "x"},
	word(strings.Repeat("x", 101)), {Kind: api.KindBool, Int: 2}, {Kind: api.KindBool, Int: -1}, {Kind: api.KindBool, Text: "x"}, {Kind: api.KindBool, Int: 1, Text: "x"}, {Kind: 4}, {Kind: 4, Int: 1}, {Kind: 255},
}

// lists goes through all lists of n elements of l.
func lists[T any](l []T, n int) iter.Seq[[]T] {
	return func(yield func([]T) bool) {
		total := 1
		for range n {
			total *= len(l)
		}
		for number := range total {
			list := make([]T, n)
			for i := range list {
				list[i] = l[number%len(l)]
				number /= len(l)
			}
			if !yield(list) {
				return
			}
		}
	}
}

// upTo goes through all lists of at most n elements of l.
func upTo[T any](l []T, n int) iter.Seq[[]T] {
	return func(yield func([]T) bool) {
		for length := range n + 1 {
			for list := range lists(l, length) {
				if !yield(list) {
					return
				}
			}
		}
	}
}

// rowsOver returns all rows of at most n values of l.
func rowsOver(l []api.Value, n int) []api.Row {
	var rows []api.Row
	for r := range upTo(l, n) {
		rows = append(rows, r)
	}
	return rows
}

// pairsOver returns all rows of two values of l.
func pairsOver(l ...api.Value) []api.Row {
	return slices.DeleteFunc(rowsOver(l, 2), func(r api.Row) bool { return len(r) != 2 })
}

func every[T any](l []T, is func(T) bool) bool {
	return !slices.ContainsFunc(l, func(x T) bool { return !is(x) })
}

func sameRow(a, b api.Row) bool {
	if len(a) != len(b) {
		return false
	}
	for i := range a {
		if a[i].Kind != b[i].Kind || a[i].Int != b[i].Int || a[i].Text != b[i].Text {
			return false
		}
	}
	return true
}

// sameRows returns whether two lists have the same rows in the same order.
func sameRows(a, b []api.Row) bool { return slices.EqualFunc(a, b, sameRow) }

// occurs returns how often a row occurs.
func occurs(r api.Row, rows []api.Row) int {
	n := 0
	for _, x := range rows {
		if sameRow(x, r) {
			n++
		}
	}
	return n
}

// wantSame returns what Same should.
func wantSame(a, b []api.Row) bool {
	asOften := func(r api.Row) bool { return occurs(r, a) == occurs(r, b) }
	return every(a, asOften) && every(b, asOften)
}

// wantValid returns what Valid should.
func wantValid(rows []api.Row) bool {
	for _, r := range rows {
		if len(r) != len(rows[0]) || !every(r, value.Valid) {
			return false
		}
	}
	for i, r := range rows {
		for _, s := range rows[:i] {
			for c := range r {
				if r[c].Kind != api.KindNull && s[c].Kind != api.KindNull && r[c].Kind != s[c].Kind {
					return false
				}
			}
		}
	}
	return true
}

// hasCol returns whether a list has a column.
func hasCol(rows []api.Row, col int) bool {
	return 0 <= col && col <= 63 && every(rows, func(r api.Row) bool { return col < len(r) })
}

// areKeys returns whether keys are valid for a list.
func areKeys(rows []api.Row, keys []api.Key) bool {
	return every(keys, func(k api.Key) bool { return hasCol(rows, k.Col) })
}

// before returns whether a comes before b in the order by keys, and whether they are alike in them.
func before(a, b api.Row, keys []api.Key) (is, alike bool) {
	for _, k := range keys {
		if a[k.Col] != b[k.Col] {
			return (value.Compare(a[k.Col], b[k.Col]) < 0) != k.Desc, false
		}
	}
	return false, true
}

// wantSorted returns what Sorted should.
func wantSorted(rows []api.Row, keys []api.Key) bool {
	if !wantValid(rows) || !areKeys(rows, keys) {
		return false
	}
	for i := 1; i < len(rows); i++ {
		if is, _ := before(rows[i], rows[i-1], keys); is {
			return false
		}
	}
	return true
}

// wantSort returns what Sort should.
func wantSort(rows []api.Row, keys []api.Key) ([]api.Row, api.Errno) {
	if !wantValid(rows) || !areKeys(rows, keys) {
		return nil, api.ErrArg
	}
	var sorted []api.Row
	for _, r := range rows {
		isAfter := func(x api.Row) bool {
			is, alike := before(r, x, keys)
			return is || alike && value.CompareRows(r, x) < 0
		}
		i := slices.IndexFunc(sorted, isAfter)
		if i < 0 {
			i = len(sorted)
		}
		sorted = slices.Insert(sorted, i, r)
	}
	return sorted, api.OK
}

// wantCut returns what Cut should.
func wantCut(rows []api.Row, keys []api.Key, from, count int) ([]api.Row, api.Errno) {
	sorted, e := wantSort(rows, keys)
	if e != api.OK || from < 0 || count < 0 {
		return nil, api.ErrArg
	}
	var l []api.Row
	for i, r := range sorted {
		if i >= from && len(l) < count {
			l = append(l, r)
		}
	}
	return l, api.OK
}

// isAggregate returns whether an aggregate exists, may be distinct, and may be taken over values of these kinds.
func isAggregate(fn api.AggFn, distinct bool, values []api.Value) bool {
	switch fn {
	case api.AggRows:
		return !distinct
	case api.AggCount, api.AggMin, api.AggMax:
		return true
	case api.AggSum, api.AggAvg:
		return every(values, func(v api.Value) bool { return v.Kind == api.KindNull || v.Kind == api.KindInt })
	}
	return false
}

// wantAggregate returns what Aggregate should.
func wantAggregate(fn api.AggFn, distinct bool, values []api.Value) api.Out {
	if !isAggregate(fn, distinct, values) || !wantValid(column(values...)) {
		return api.Out{Err: api.ErrArg}
	}
	var l []api.Value // those that count
	for _, v := range values {
		if v != null && !(distinct && slices.Contains(l, v)) {
			l = append(l, v)
		}
	}
	switch fn {
	case api.AggRows:
		return api.Out{V: num(int64(len(values)))}
	case api.AggCount:
		return api.Out{V: num(int64(len(l)))}
	}
	if len(l) == 0 {
		return api.Out{}
	}
	switch fn {
	case api.AggMin:
		return api.Out{V: slices.MinFunc(l, value.Compare)}
	case api.AggMax:
		return api.Out{V: slices.MaxFunc(l, value.Compare)}
	}
	n := new(big.Int)
	for _, v := range l {
		n.Add(n, big.NewInt(v.Int))
	}
	if fn == api.AggAvg {
		n.Quo(n, big.NewInt(int64(len(l))))
	}
	if !n.IsInt64() {
		return api.Out{Err: api.ErrOverflow}
	}
	return api.Out{V: num(n.Int64())}
}

// valuesOf returns the values of a column.
func valuesOf(rows []api.Row, col int) []api.Value {
	var l []api.Value
	for _, r := range rows {
		l = append(l, r[col])
	}
	return l
}

// mayGroup returns whether rows can be grouped so.
func mayGroup(rows []api.Row, cols []int, aggs []api.Agg) bool {
	if !wantValid(rows) || !every(cols, func(c int) bool { return hasCol(rows, c) }) {
		return false
	}
	return every(aggs, func(a api.Agg) bool {
		if a.Fn == api.AggRows {
			return !a.Distinct && a.Col == 0
		}
		return hasCol(rows, a.Col) && isAggregate(a.Fn, a.Distinct, valuesOf(rows, a.Col))
	})
}

// wantGroup returns what Group should.
func wantGroup(rows []api.Row, cols []int, aggs []api.Agg) api.Outcome {
	if !mayGroup(rows, cols, aggs) {
		return api.Outcome{Err: api.ErrArg}
	}
	var heads []api.Row
	var groups [][]api.Row
	if len(cols) == 0 {
		heads, groups = []api.Row{nil}, [][]api.Row{nil}
	}
	for _, r := range rows {
		var head api.Row
		for _, c := range cols {
			head = append(head, r[c])
		}
		i := slices.IndexFunc(heads, func(h api.Row) bool { return sameRow(h, head) })
		if i < 0 {
			i = len(heads)
			heads, groups = append(heads, head), append(groups, nil)
		}
		groups[i] = append(groups[i], r)
	}
	for i := range heads {
		for _, a := range aggs {
			o := api.Out{V: num(int64(len(groups[i])))}
			if a.Fn != api.AggRows {
				o = wantAggregate(a.Fn, a.Distinct, valuesOf(groups[i], a.Col))
			}
			if o.Err != api.OK {
				return api.Outcome{Err: o.Err}
			}
			heads[i] = append(heads[i], o.V)
		}
	}
	slices.SortFunc(heads, value.CompareRows)
	return api.Outcome{Rows: heads}
}

// wantSet returns the rows of a and b, each as often as often says of the numbers of times that it occurs in them.
func wantSet(a, b []api.Row, often func(inA, inB int) int) ([]api.Row, api.Errno) {
	both := slices.Concat(a, b)
	if !wantValid(both) {
		return nil, api.ErrArg
	}
	var l []api.Row
	for i, r := range both {
		if occurs(r, both[:i]) == 0 {
			for range often(occurs(r, a), occurs(r, b)) {
				l = append(l, r)
			}
		}
	}
	slices.SortFunc(l, value.CompareRows)
	return l, api.OK
}

func once(int, int) int { return 1 }

func together(a, b int) int { return a + b }

func lesser(a, b int) int { return min(a, b) }

func more(a, b int) int { return a - b } // none, if it is below 0
