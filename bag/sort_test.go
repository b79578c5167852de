package bag_test

import (
	"math"
	"math/rand"
	"slices"
	"testing"

	"jointer/api"
	"jointer/bag"
)

// P6.1 (Sorted), P6.2, P6.5 (the cuts)

var noKey = api.Key{Col: -99}

// checkSorted checks Sorted and Sort.
func checkSorted(t *testing.T, rows []api.Row, keys []api.Key) {
	t.Helper()
	given, by := roomyRows(rows), roomy(keys, noKey)
	if got, want := bag.Sorted(given, by), wantSorted(rows, keys); got != want {
		t.Errorf("Sorted(%v, %v) is %v", rows, keys, got)
	}
	want, wantErr := wantSort(rows, keys)
	got, e := bag.Sort(given, by)
	if e == api.OK && !bag.Sorted(got, keys) {
		t.Errorf("Sort of %v by %v is not Sorted: %v", rows, keys, got)
	}
	checkRows(t, "Sort", got, e, want, wantErr, given, rows)
	checkKept(t, by, keys, noKey)
}

// checkCut checks one cut.
func checkCut(t *testing.T, rows []api.Row, keys []api.Key, from, count int) {
	t.Helper()
	given, by := roomyRows(rows), roomy(keys, noKey)
	want, wantErr := wantCut(rows, keys, from, count)
	got, e := bag.Cut(given, by, from, count)
	if e != wantErr || !sameRows(got, want) {
		t.Errorf("Cut by %v from %d, count %d:", keys, from, count)
	}
	checkRows(t, "Cut", got, e, want, wantErr, given, rows)
	checkKept(t, by, keys, noKey)
}

// allKeys has keys of the columns 0 and 1, which not all lists have.
var allKeys = []api.Key{{Col: 0}, {Col: 0, Desc: true}, {Col: 1}, {Col: 1, Desc: true}}

func TestSortOfAllShortLists(t *testing.T) {
	for keys := range upTo(allKeys, 3) {
		for rows := range upTo(rowsOver([]api.Value{null, num(1), num(2)}, 1), 4) {
			checkSorted(t, rows, keys)
		}
	}
	for keys := range upTo(allKeys, 2) {
		for rows := range upTo(pairsOver(null, num(1), num(2)), 3) {
			checkSorted(t, rows, keys)
		}
	}
}

// TestSortOfKinds sorts the values of each kind, the texts by bytes, and nulls.
func TestSortOfKinds(t *testing.T) {
	r := rand.New(rand.NewSource(1))
	for _, l := range [][]api.Value{
		{null, num(0), num(1), num(-1), num(9), num(10), num(-10), num(math.MaxInt64), num(math.MinInt64)},
		{null, word(""), word("a"), word("ab"), word("b"), word("B"), word("aa"), word("\x00"), word("\xff"), word("é"), word("10"), word("9")},
		{null, no, yes},
	} {
		for range 50 {
			var rows []api.Row
			for range r.Intn(12) {
				rows = append(rows, row(l[r.Intn(len(l))], l[r.Intn(len(l))]))
			}
			for keys := range upTo(allKeys, 2) {
				checkSorted(t, rows, keys)
			}
		}
	}
}

// madeRows returns n rows of a few values in each of w columns, of changing kinds.
func madeRows(r *rand.Rand, n, w int) []api.Row {
	kinds := [][]api.Value{{null, num(1), num(2), num(-3)}, {null, word(""), word("a"), word("b")}, {null, no, yes}, {num(7)}}
	var rows []api.Row
	for range n {
		var x api.Row
		for c := range w {
			l := kinds[(c+w)%len(kinds)]
			x = append(x, l[r.Intn(len(l))])
		}
		rows = append(rows, x)
	}
	return rows
}

// madeKeys returns n keys of w columns.
func madeKeys(r *rand.Rand, n, w int) []api.Key {
	var keys []api.Key
	for range n {
		keys = append(keys, api.Key{Col: r.Intn(w), Desc: r.Intn(2) == 1})
	}
	return keys
}

func TestSortOfMadeLists(t *testing.T) {
	r := rand.New(rand.NewSource(2))
	for i := range 600 {
		w := 1 + i%8
		rows, keys := madeRows(r, i%40, w), madeKeys(r, i%5, w)
		checkSorted(t, rows, keys)
		sorted, _ := wantSort(rows, keys)
		checkSorted(t, sorted, keys)
		for range 3 { // the order of the argument does not count
			r.Shuffle(len(sorted), func(i, j int) { sorted[i], sorted[j] = sorted[j], sorted[i] })
			checkSorted(t, sorted, keys)
		}
	}
	checkSorted(t, madeRows(r, 1000, 3), madeKeys(r, 2, 3))
}

// TestSortedIsNotFully has lists that are sorted by keys, but not fully.
func TestSortedIsNotFully(t *testing.T) {
	rows := []api.Row{row(num(1), num(3)), row(num(1), num(2)), row(num(2), num(1))}
	for keys := range upTo(allKeys, 2) {
		checkSorted(t, rows, keys)
	}
	if !bag.Sorted(rows, nil) || !bag.Sorted(rows, []api.Key{{Col: 0}}) || !bag.Sorted(rows, []api.Key{{Col: 1, Desc: true}}) || bag.Sorted(rows, []api.Key{{Col: 0}, {Col: 1}}) {
		t.Error("rows that are alike in the keys stand in any order")
	}
}

// wrongLists are lists that are not valid.
var wrongLists = [][]api.Row{
	{row(num(1)), row(word("a"))}, {row(num(1)), nil}, {nil, row(num(1))}, {row(num(1)), row(num(1), num(1))}, {row(null), row(yes), row(null), row(num(1))}, column(wrongValues[0]), column(num(1), wrongValues[3]), {nil, nil, row(null)},
}

func TestSortOfWrongArguments(t *testing.T) {
	for _, rows := range wrongLists {
		for keys := range upTo(allKeys, 1) {
			checkSorted(t, rows, keys)
			checkCut(t, rows, keys, 0, 1)
			checkCut(t, rows, keys, 0, 0)
			checkCut(t, rows, keys, -1, 1)
			checkCut(t, rows, keys, 9, 1)
		}
	}
	wide := slices.Repeat(row(num(1)), 70)
	for _, rows := range [][]api.Row{nil, {}, {nil}, {nil, nil}, column(num(1)), {row(num(2), num(1)), row(null, null)}, {wide[:63]}, {wide[:64]}, {wide[:65], wide[:65]}, {wide}} {
		for _, col := range []int{0, 1, 2, -1, 62, 63, 64, 65, 69, 70, 256, 1 << 32, math.MaxInt, math.MinInt} {
			for _, key := range []api.Key{{Col: col}, {Col: col, Desc: true}} {
				for _, keys := range [][]api.Key{{key}, {{Col: 0}, key}, {key, {Col: 0}}} {
					checkSorted(t, rows, keys)
					checkCut(t, rows, keys, 0, 1)
					checkCut(t, rows, keys, 0, 0)
				}
			}
		}
	}
}

func TestCutOfAllNumbers(t *testing.T) {
	r := rand.New(rand.NewSource(3))
	for n := range 6 {
		rows, keys := madeRows(r, n, 2), madeKeys(r, n%3, 2)
		for from := -2; from <= n+2; from++ {
			for count := -2; count <= n+2; count++ {
				checkCut(t, rows, keys, from, count)
			}
		}
		far := []int{0, 1, -1, n - 1, n, n + 1, 1 << 31, 1 << 32, math.MaxInt - n, math.MaxInt - 1, math.MaxInt, math.MinInt, math.MinInt + 1}
		for _, from := range far {
			for _, count := range far {
				checkCut(t, rows, keys, from, count)
			}
		}
	}
}

func TestCutOfMadeLists(t *testing.T) {
	r := rand.New(rand.NewSource(4))
	for i := range 300 {
		w := 1 + i%4
		rows, keys := madeRows(r, 1+i%30, w), madeKeys(r, i%4, w)
		from, count := r.Intn(len(rows)+3), r.Intn(len(rows)+3)
		checkCut(t, rows, keys, from, count)
		r.Shuffle(len(rows), func(i, j int) { rows[i], rows[j] = rows[j], rows[i] })
		checkCut(t, rows, keys, from, count)
	}
}

// TestCutsAreSort joins cuts of which each begins where the one before it ends.
func TestCutsAreSort(t *testing.T) {
	r := rand.New(rand.NewSource(5))
	for i := range 300 {
		w := 1 + i%4
		rows, keys := madeRows(r, i%30, w), madeKeys(r, i%4, w)
		whole, _ := bag.Sort(rows, keys)
		var joined []api.Row
		for from := 0; from < len(rows); {
			count := r.Intn(5)
			cut, e := bag.Cut(rows, keys, from, count)
			if e != api.OK {
				t.Fatalf("Cut of %v by %v is %v", rows, keys, e)
			}
			joined = append(joined, cut...)
			from += count
		}
		if !sameRows(joined, whole) {
			t.Errorf("the cuts of %v by %v are %v, not %v", rows, keys, joined, whole)
		}
	}
}

func TestSortOfTheDocument(t *testing.T) {
	a, b, c := row(num(1), word("b")), row(null, word("a")), row(num(1), word("a"))
	rows, down := []api.Row{a, b, c}, []api.Key{{Col: 0, Desc: true}}
	if got, e := bag.Sort(rows, down); e != api.OK || !sameRows(got, []api.Row{c, a, b}) {
		t.Errorf("Sort, descending: %v, %v", got, e)
	}
	if got, e := bag.Sort(rows, nil); e != api.OK || !sameRows(got, []api.Row{b, c, a}) {
		t.Errorf("Sort by no keys: %v, %v", got, e)
	}
	if got, e := bag.Cut(rows, down, 1, 5); e != api.OK || !sameRows(got, []api.Row{a, b}) {
		t.Errorf("Cut: %v, %v", got, e)
	}
}
