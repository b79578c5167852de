package bag_test

import (
	"math"
	"slices"
	"strconv"
	"strings"
	"testing"

	"jointer/api"
	"jointer/bag"
)

// P6.1 (Valid, Same); P6.1 (Sorted) stands in sort_test.go.

func checkValid(t *testing.T, rows ...api.Row) {
	t.Helper()
	given := roomyRows(rows)
	if got, want := bag.Valid(given), wantValid(rows); got != want {
		t.Errorf("Valid(%v) is %v", rows, got)
	}
	checkRowsKept(t, given, rows)
}

func TestValidOfAllShortLists(t *testing.T) {
	for rows := range upTo(rowsOver([]api.Value{null, num(1), word("a"), yes, {Kind: api.KindBool, Int: 2}}, 2), 3) {
		checkValid(t, rows...)
	}
	for rows := range upTo(rowsOver([]api.Value{null, num(1), word(""), no}, 1), 6) {
		checkValid(t, rows...)
	}
}

// TestValidOfWrongValues has values that are not valid, at all places of lists that would be valid without them.
func TestValidOfWrongValues(t *testing.T) {
	for _, wrong := range wrongValues {
		for i := range 9 {
			for _, v := range []api.Value{null, num(0), word(""), no} {
				rows := []api.Row{row(v, v, v), row(v, v, v), row(v, v, v)}
				checkValid(t, rows...)
				rows[i/3][i%3] = wrong
				checkValid(t, rows...)
			}
		}
	}
}

// TestValidOfManyRows has lists of which one row is another one, and kinds that are seen late.
func TestValidOfManyRows(t *testing.T) {
	for _, n := range []int{2, 3, 100, 101} {
		for _, first := range []api.Row{{}, row(null), row(num(1)), row(null, word("x")), row(yes, null, null)} {
			for _, other := range []api.Row{{}, row(num(2)), row(word("y")), row(null, null), row(null, num(3)), row(no, null, word("z")), row(no, null, api.Value{Kind: 9})} {
				for _, i := range []int{0, 1, n / 2, n - 1} {
					rows := slices.Repeat([]api.Row{first}, n)
					rows[i] = other
					checkValid(t, rows...)
					rows[n-1-i] = row(null, yes, num(1))[:len(first)]
					checkValid(t, rows...)
				}
			}
		}
	}
}

// TestValidOfWideRows has more columns than plans have: the chapter sets no limit.
func TestValidOfWideRows(t *testing.T) {
	for _, n := range []int{63, 64, 65, 500} {
		a, b := slices.Repeat(row(num(1)), n), slices.Repeat(row(num(2)), n)
		checkValid(t, a, b)
		checkValid(t, a, b[1:])
		for _, v := range []api.Value{null, word("a"), yes, {Kind: 4}} {
			b[n-1] = v
			checkValid(t, a, b)
			checkValid(t, b, a)
		}
	}
}

func checkSame(t *testing.T, a, b []api.Row) {
	t.Helper()
	given, with := roomyRows(a), roomyRows(b)
	if got, want := bag.Same(given, with), wantSame(a, b); got != want {
		t.Errorf("Same(%v, %v) is %v", a, b, got)
	}
	checkRowsKept(t, given, a)
	checkRowsKept(t, with, b)
}

func TestSameOfAllShortLists(t *testing.T) {
	all := slices.Collect(upTo([]api.Row{nil, row(null), row(num(1)), row(num(1), num(1)), row(word("1"))}, 4))
	for _, a := range all {
		for _, b := range all {
			if len(a)+len(b) < 8 {
				checkSame(t, a, b)
			}
		}
	}
	two := []api.Row{row(num(1), no), row(num(1), yes)}
	for a := range upTo(two, 6) {
		for b := range upTo(two, 6) {
			checkSame(t, a, b)
		}
	}
}

// TestSameOfAllPairs has single rows, which are the same bag just if they are the same row; also with values that are not valid, and differ in one field.
func TestSameOfAllPairs(t *testing.T) {
	values := append([]api.Value{null, no, yes, num(0), num(1), num(-1), num(2), num(256), num(1 << 32), num(math.MaxInt64), num(math.MinInt64), word(""), word("0"), word("1"), word("-1"), word("x"), word("xx")}, wrongValues...)
	values = append(values, api.Value{Kind: 5}, api.Value{Kind: 4, Int: 2}, api.Value{Kind: 4, Text: "x"}, api.Value{Kind: 255, Text: "x"}, api.Value{Int: 256}, api.Value{Kind: api.KindBool, Int: 3}, word(strings.Repeat("x", 102)))
	rows := rowsOver(values, 1)
	for _, v := range []api.Value{null, num(1), word(""), word("x")} {
		for _, w := range values {
			rows = append(rows, row(v, w))
		}
	}
	for _, a := range rows {
		for _, b := range rows {
			checkSame(t, []api.Row{a}, []api.Row{b})
			checkSame(t, []api.Row{a, b}, []api.Row{b, a})
			checkSame(t, []api.Row{a, b, a}, []api.Row{a, b, b})
		}
	}
}

// TestSameOfTexts has rows whose texts, written behind one another, would be the same.
func TestSameOfTexts(t *testing.T) {
	for c := range 256 {
		s := string([]byte{byte(c)})
		var rows []api.Row
		for _, l := range [][]string{
			{"a" + s + "b"}, {"a", "b"}, {"a" + s, "b"}, {"a", s + "b"}, {"a", s, "b"}, {"a", "", "b"}, {"a" + s + s + "b"}, {"a" + s, s + "b"}, {"ab"}, {"ab", ""}, {"", "ab"}, {s}, {s, ""}, {"", s}, {""}, {"", ""}, {s + s}, {s, s}, {},
			{"'a'" + s + "'b'"}, {"a'" + s + "'b"}, {"a", "'" + s + "'b"}, {"a\\"}, {"a\\" + s}, {"a", "\\" + s}, {"1" + s + "1" + s + "a"}, {"1", "1", "a"}, {"1", "a" + s + "1"}, {"a" + s + "1", "1"},
		} {
			var r api.Row
			for _, x := range l {
				r = append(r, word(x))
			}
			rows = append(rows, r)
		}
		for i, a := range rows {
			for _, b := range rows[i:] {
				checkSame(t, []api.Row{a}, []api.Row{b})
			}
		}
	}
}

// TestSameOfTextsThatLookLikeValues has texts in which other values seem to begin or end, with their kinds, numbers and lengths.
func TestSameOfTextsThatLookLikeValues(t *testing.T) {
	for l := range upTo([]string{"\x02", "0", "1", " "}, 5) {
		s := strings.Join(l, "")
		a, b := []api.Row{row(word("a"+s+"b"), word(""))}, []api.Row{row(word("a"), word("b"+s))}
		checkSame(t, a, b)
		checkSets(t, a, b)
		checkSame(t, []api.Row{row(word("a" + s + "b"))}, []api.Row{row(word("a"), word("b"))})
	}
	checkSame(t, []api.Row{row(word("1"), word("......\x020 0"))}, []api.Row{row(word("\x020 10......"), word(""))})
	checkSame(t, []api.Row{row(word("0"), word("....\x020 10z"))}, []api.Row{row(word("\x020 100...."), word("z"))})
	checkSame(t, []api.Row{row(api.Value{Kind: api.KindInt, Int: 1, Text: "\x0112345670 "})}, []api.Row{row(num(11), num(1234567))})
	long := strings.Repeat(".", 193)
	checkSame(t, []api.Row{row(api.Value{Kind: api.KindInt, Int: 1, Text: "abc\x0200193 " + long})}, []api.Row{row(api.Value{Kind: api.KindInt, Int: 102, Text: "abc"}, word(long))})
}

// TestSameOfNumbers has integers whose digits, written behind one another, would be the same, and texts that look like the lengths of others.
func TestSameOfNumbers(t *testing.T) {
	var values []api.Value
	for _, n := range []int64{1, 11, 111, -1, -11, 0} {
		values = append(values, num(n), word(strconv.FormatInt(n, 10)))
	}
	values = append(values, null, word(""), word("1 1"), word("1 1 "), word("11 "), word(" 1"))
	rows := rowsOver(values, 2)
	for i, a := range rows {
		for _, b := range rows[i:] {
			checkSame(t, []api.Row{a}, []api.Row{b})
		}
	}
}

// TestSameOfLongLists has rows that occur more often than a byte, or the ends of the lists, would tell.
func TestSameOfLongLists(t *testing.T) {
	for _, n := range []int{2, 255, 256, 257, 512} {
		a := slices.Repeat([]api.Row{row(num(1), word("x"))}, n)
		checkSame(t, a, a)
		checkSame(t, a, a[1:])
		checkSame(t, a[1:], a)
		for _, other := range []api.Row{nil, row(num(2), word("x")), row(num(1), word("y")), row(num(1))} {
			for _, i := range []int{0, n / 2, n - 1} {
				b, c := slices.Clone(a), slices.Clone(a)
				b[i], c[n-1-i] = other, other
				checkSame(t, a, b)
				checkSame(t, b, a)
				checkSame(t, b, c)
				checkSame(t, append(b, other), append(c, a[0]))
			}
		}
	}
	a := slices.Repeat([]api.Row{nil}, 256)
	checkSame(t, a, nil)
	checkSame(t, nil, a)
	checkSame(t, a, a[:255])
}
