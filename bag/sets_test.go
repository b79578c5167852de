package bag_test

import (
	"math/rand"
	"slices"
	"testing"

	"jointer/api"
	"jointer/bag"
)

// P6.4, P6.5 (the parts)

func checkDistinct(t *testing.T, rows []api.Row) {
	t.Helper()
	given := roomyRows(rows)
	want, wantErr := wantSet(rows, nil, once)
	got, e := bag.Distinct(given)
	checkRows(t, "Distinct", got, e, want, wantErr, given, rows)
}

// checkSets checks Distinct of a, and all that is done with a and b.
func checkSets(t *testing.T, a, b []api.Row) {
	t.Helper()
	checkDistinct(t, a)
	for _, x := range []struct {
		name  string
		do    func(a, b []api.Row) ([]api.Row, api.Errno)
		often func(inA, inB int) int
	}{{"Union", bag.Union, together}, {"Intersect", bag.Intersect, lesser}, {"Except", bag.Except, more}} {
		given, with := roomyRows(a), roomyRows(b)
		want, wantErr := wantSet(a, b, x.often)
		got, e := x.do(given, with)
		checkRows(t, x.name, got, e, want, wantErr, given, a, with, b)
	}
	checkParts(t, a, b)
}

// checkParts checks that the rows of a that are in b, and the others, are a.
func checkParts(t *testing.T, a, b []api.Row) {
	t.Helper()
	met, e := bag.Intersect(a, b)
	rest, f := bag.Except(a, b)
	if e != f {
		t.Errorf("Intersect of %v and %v is %v, Except is %v", a, b, e, f)
	}
	if e != api.OK {
		return
	}
	if both, e := bag.Union(met, rest); e != api.OK || !bag.Same(both, a) {
		t.Errorf("the parts of %v by %v are %v and %v, together %v, %v", a, b, met, rest, both, e)
	}
}

func TestSetsOfAllShortLists(t *testing.T) {
	for _, l := range [][]api.Row{column(null, num(1), num(2)), column(null, word(""), word("a")), column(null, no, yes), {nil}, {row(num(1), word("a")), row(num(1), word("b")), row(null, null)}} {
		all := slices.Collect(upTo(l, 4))
		for _, a := range all {
			for _, b := range all {
				checkSets(t, a, b)
			}
		}
	}
}

// TestSetsOfWrongLists has lists that are not valid, and valid ones that are not together.
func TestSetsOfWrongLists(t *testing.T) {
	l := append([][]api.Row{nil, {nil}, {nil, nil}, column(null), column(num(1)), column(null, num(1), num(1)), column(word("a")), column(yes, null), {row(null, null)}, {row(null, num(1)), row(num(1), null)}, {row(word("a"), null)}}, wrongLists...)
	for _, v := range wrongValues {
		l = append(l, column(v), column(null, v, v))
	}
	for _, a := range l {
		for _, b := range l {
			checkSets(t, a, b)
		}
	}
}

func TestSetsOfMadeLists(t *testing.T) {
	r := rand.New(rand.NewSource(1))
	for i := range 500 {
		w := i % 4
		a, b := madeRows(r, r.Intn(20), w), madeRows(r, r.Intn(20), w)
		checkSets(t, a, b)
		checkSets(t, append(slices.Clone(a), b...), a)
		r.Shuffle(len(a), func(i, j int) { a[i], a[j] = a[j], a[i] })
		slices.Reverse(b)
		checkSets(t, a, b)
	}
	a := madeRows(r, 1000, 3)
	checkSets(t, a[:600], a[400:])
	checkSets(t, slices.Repeat([]api.Row{nil}, 300), slices.Repeat([]api.Row{nil}, 256))
	checkSets(t, slices.Repeat(column(num(1)), 256), slices.Repeat(column(num(1)), 512))
}

// TestSetsOfTexts has rows whose texts, written behind one another, would be the same.
func TestSetsOfTexts(t *testing.T) {
	for c := range 256 {
		s := string([]byte{byte(c)})
		a := []api.Row{row(word("a"+s), word("b")), row(word("a"+s+"b"), word("")), row(word(s), word(""))}
		b := []api.Row{row(word("a"), word(s+"b")), row(word(""), word("a"+s+"b")), row(word(""), word(s)), row(word("a"), word("b"))}
		checkSets(t, a, b)
		checkSets(t, b, append(a, b...))
	}
}

// TestSetsOfWideRows has more columns than plans have: the chapter sets no limit.
func TestSetsOfWideRows(t *testing.T) {
	for _, n := range []int{64, 65, 200} {
		a, b := slices.Repeat(row(num(1)), n), slices.Repeat(row(num(1)), n)
		b[n-1] = num(0)
		checkSets(t, []api.Row{a, b, a}, []api.Row{a, b})
		checkSorted(t, []api.Row{a, b, a}, []api.Key{{Col: 63, Desc: true}})
		b[n-1] = word("a")
		checkSets(t, []api.Row{a}, []api.Row{b})
	}
}

func TestSetsOfTheDocument(t *testing.T) {
	a, b := column(num(1), num(1), num(2)), column(num(1), num(1), num(1), num(3))
	if got, e := bag.Intersect(a, b); e != api.OK || !sameRows(got, column(num(1), num(1))) {
		t.Errorf("Intersect: %v, %v", got, e)
	}
	if got, e := bag.Except(a, b); e != api.OK || !sameRows(got, column(num(2))) {
		t.Errorf("Except: %v, %v", got, e)
	}
	if got, e := bag.Except(b, a); e != api.OK || !sameRows(got, column(num(1), num(3))) {
		t.Errorf("Except the other way round: %v, %v", got, e)
	}
	if got, e := bag.Union(a, b); e != api.OK || !sameRows(got, column(num(1), num(1), num(1), num(1), num(1), num(2), num(3))) {
		t.Errorf("Union: %v, %v", got, e)
	}
	if got, e := bag.Distinct(a); e != api.OK || !sameRows(got, column(num(1), num(2))) {
		t.Errorf("Distinct: %v, %v", got, e)
	}
}
