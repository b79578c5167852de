package bag_test

import (
	"math"
	"math/rand"
	"slices"
	"testing"

	"jointer/api"
	"jointer/bag"
)

// P6.3

const most, least = math.MaxInt64, math.MinInt64

var noAgg = api.Agg{Fn: 99}

// checkAggregate checks the aggregate of some values, with and without distinct.
func checkAggregate(t *testing.T, fn api.AggFn, values ...api.Value) {
	t.Helper()
	for _, distinct := range []bool{false, true} {
		given := roomy(values, junk)
		if got, want := bag.Aggregate(fn, distinct, given), wantAggregate(fn, distinct, values); got != want {
			t.Errorf("Aggregate(%d, %v, %v) is %v, want %v", fn, distinct, values, got, want)
		}
		checkKept(t, given, values, junk)
	}
}

func checkAggregates(t *testing.T, values ...api.Value) {
	t.Helper()
	for fn := api.AggRows; fn <= api.AggAvg+1; fn++ {
		checkAggregate(t, fn, values...)
	}
}

func TestAggregatesOfAllShortLists(t *testing.T) {
	for values := range upTo([]api.Value{null, num(0), num(1), num(-2), word(""), word("a"), no, yes, {Kind: api.KindBool, Int: 2}}, 4) {
		checkAggregates(t, values...)
	}
	for values := range upTo([]api.Value{null, num(2), num(-3)}, 8) {
		checkAggregates(t, values...)
	}
}

// TestAggregatesOfLargeNumbers has sums on both sides of 64 bits, and parts of sums that are outside.
func TestAggregatesOfLargeNumbers(t *testing.T) {
	for values := range upTo([]api.Value{num(most), num(least), num(1), num(-1), num(most - 1), num(least + 1), num(1 << 62), num(-1 << 62), null}, 5) {
		checkAggregate(t, api.AggSum, values...)
		checkAggregate(t, api.AggAvg, values...)
	}
	for _, n := range []int64{most, least, most - 1, least + 1, 1 << 62, -1 << 62, 1<<62 + 1, 1 << 32, -1} {
		for _, often := range []int{2, 3, 4, 5, 100, 1001} {
			values := slices.Repeat([]api.Value{num(n)}, often)
			checkAggregates(t, values...)
			for _, last := range []api.Value{null, num(1), num(-1), num(-n), num(-n - 1), num(most), num(least)} {
				values[often-1] = last
				checkAggregate(t, api.AggSum, values...)
				checkAggregate(t, api.AggAvg, values...)
			}
		}
	}
}

// TestAggregatesOfMadeNumbers has random integers of all sizes, whose order does not count.
func TestAggregatesOfMadeNumbers(t *testing.T) {
	r := rand.New(rand.NewSource(1))
	for i := range 3000 {
		var values []api.Value
		for range i % 20 {
			n := int64(r.Uint64()) >> r.Intn(64)
			values = append(values, num(n))
			switch r.Intn(5) {
			case 0:
				values = append(values, null)
			case 1:
				values = append(values, num(n))
			case 2:
				values = append(values, num(-n))
			}
		}
		checkAggregates(t, values...)
		sorted := slices.SortedFunc(slices.Values(values), func(a, b api.Value) int { return int(a.Int>>33 - b.Int>>33) })
		checkAggregates(t, sorted...)
		slices.Reverse(sorted)
		checkAggregates(t, sorted...)
	}
}

// TestAggregatesOfWrongValues has values that are not valid, or of other kinds, at all places.
func TestAggregatesOfWrongValues(t *testing.T) {
	for fn := range 256 {
		for _, values := range [][]api.Value{nil, {null}, {num(1)}, {num(1), num(1)}, {word("a"), word("b")}, {yes}} {
			checkAggregate(t, api.AggFn(fn), values...)
		}
	}
	for _, other := range append([]api.Value{null, num(1), word("a"), no}, wrongValues...) {
		for _, v := range []api.Value{null, num(5), word("b"), yes} {
			for i := range 4 {
				values := slices.Repeat([]api.Value{v}, 4)
				values[i] = other
				checkAggregates(t, values...)
				values[3-i] = null
				checkAggregates(t, values...)
			}
		}
	}
	// An argument that is not valid comes before a sum that fails.
	checkAggregates(t, num(most), num(most), word("a"))
	checkAggregates(t, num(most), num(most), api.Value{Kind: api.KindInt, Text: "x"})
}

func checkGroup(t *testing.T, rows []api.Row, cols []int, aggs []api.Agg) {
	t.Helper()
	given, by, of := roomyRows(rows), roomy(cols, -99), roomy(aggs, noAgg)
	want := wantGroup(rows, cols, aggs)
	got := bag.Group(given, by, of)
	if got.Err != want.Err || !sameRows(got.Rows, want.Rows) {
		t.Errorf("Group by %v with %v:", cols, aggs)
	}
	checkRows(t, "Group", got.Rows, got.Err, want.Rows, want.Err, given, rows)
	checkKept(t, by, cols, -99)
	checkKept(t, of, aggs, noAgg)
}

// someAggs has aggregates of the columns 0 and 1.
func someAggs() []api.Agg {
	aggs := []api.Agg{{Fn: api.AggRows}}
	for fn := api.AggCount; fn <= api.AggAvg; fn++ {
		for col := range 2 {
			aggs = append(aggs, api.Agg{Fn: fn, Col: col}, api.Agg{Fn: fn, Col: col, Distinct: true})
		}
	}
	return aggs
}

func TestGroupsOfAllShortLists(t *testing.T) {
	numbers, words := someAggs(), slices.DeleteFunc(someAggs(), func(a api.Agg) bool { return a.Fn == api.AggSum || a.Fn == api.AggAvg })
	for _, x := range []struct {
		values []api.Value
		aggs   []api.Agg
	}{{[]api.Value{null, num(1), num(2)}, numbers}, {[]api.Value{null, word(""), word("a")}, words}, {[]api.Value{null, no, yes}, words}} {
		for rows := range upTo(pairsOver(x.values...), 3) {
			for _, cols := range [][]int{nil, {0}, {1}, {0, 1}, {1, 0}, {1, 1}, {0, 1, 0}} {
				checkGroup(t, rows, cols, x.aggs)
			}
		}
	}
}

// TestEachAggregateOfGroups has one aggregate at a time, and two in both orders.
func TestEachAggregateOfGroups(t *testing.T) {
	rows := []api.Row{row(num(1), num(5)), row(null, num(7)), row(num(1), null), row(null, num(1)), row(num(2), null), row(num(1), num(5)), row(num(3), num(-4))}
	for aggs := range upTo(someAggs(), 2) {
		for _, cols := range [][]int{nil, {0}, {1}, {1, 0}} {
			checkGroup(t, rows, cols, aggs)
			checkGroup(t, rows[:1], cols, aggs)
			checkGroup(t, nil, cols, aggs)
		}
	}
}

// TestGroupsOfMadeLists has lists of all kinds, in several orders.
func TestGroupsOfMadeLists(t *testing.T) {
	r := rand.New(rand.NewSource(2))
	for i := range 800 {
		w := 1 + i%6
		rows := madeRows(r, i%50, w)
		var cols []int
		for range i % 4 {
			cols = append(cols, r.Intn(w))
		}
		var aggs []api.Agg
		for range r.Intn(4) {
			fn := api.AggFn(r.Intn(6))
			if fn == api.AggRows {
				aggs = append(aggs, api.Agg{})
			} else {
				aggs = append(aggs, api.Agg{Fn: fn, Col: r.Intn(w), Distinct: r.Intn(2) == 1})
			}
		}
		checkGroup(t, rows, cols, aggs)
		r.Shuffle(len(rows), func(i, j int) { rows[i], rows[j] = rows[j], rows[i] })
		checkGroup(t, rows, cols, aggs)
	}
	checkGroup(t, madeRows(r, 1000, 4), []int{2, 1}, []api.Agg{{Fn: api.AggRows}, {Fn: api.AggMin, Col: 3}})
}

// TestGroupsApart has rows that no group may have in common.
func TestGroupsApart(t *testing.T) {
	counted := []api.Agg{{Fn: api.AggRows}}
	for c := range 256 {
		s := string([]byte{byte(c)})
		rows := []api.Row{row(word("a"+s), word("b")), row(word("a"), word(s+"b")), row(word("a"+s+"b"), word("")), row(word(""), word("a"+s+"b")), row(word("a"), null), row(word(s), word("")), row(word(""), word(s)), row(word(""), null), row(null, word("")), row(null, null)}
		checkGroup(t, rows, []int{0, 1}, counted)
		checkGroup(t, rows, []int{1, 0, 1}, counted)
	}
	for _, l := range [][]api.Value{
		{null, num(0), num(1), num(-1), num(256), num(1 << 32), num(most), num(least), num(11)}, {null, no, yes}, {null, word(""), word("0"), word("NULL"), word("null")},
	} {
		rows := slices.Repeat(pairsOver(l...), 2)
		checkGroup(t, rows, []int{0, 1}, counted)
		checkGroup(t, rows, []int{1}, counted)
	}
}

// TestGroupsOfNothing has no rows, rows without values, and no columns.
func TestGroupsOfNothing(t *testing.T) {
	for _, rows := range [][]api.Row{nil, {}, {nil}, {{}, nil, {}}} {
		for _, cols := range [][]int{nil, {}, {0}, {63}, {64}, {-1}} {
			for _, aggs := range [][]api.Agg{nil, {{Fn: api.AggRows}}, {{Fn: api.AggRows}, {Fn: api.AggRows}}, {{Fn: api.AggMax, Col: 3}}, {{Fn: api.AggRows}, {Fn: api.AggSum, Col: 63}}, {{Fn: api.AggSum, Col: 64}}} {
				checkGroup(t, rows, cols, aggs)
			}
		}
	}
}

// TestGroupsWithOverflow has a sum that fails in one group, the first or another one, of one aggregate or another one.
func TestGroupsWithOverflow(t *testing.T) {
	sum, mean := api.Agg{Fn: api.AggSum, Col: 1}, api.Agg{Fn: api.AggAvg, Col: 1}
	for _, g := range []int64{1, 2, 3} {
		for _, n := range []int64{most, most - 1, -1} {
			rows := []api.Row{row(num(1), num(0)), row(num(2), num(0)), row(num(3), num(0)), row(num(g), num(n)), row(num(g), num(1))}
			for _, aggs := range [][]api.Agg{{sum}, {mean}, {mean, sum}, {sum, {Fn: api.AggRows}}, {{Fn: api.AggCount}, sum, mean}, {sum, {Fn: api.AggMax, Col: 1}}} {
				checkGroup(t, rows, []int{0}, aggs)
				checkGroup(t, rows, nil, aggs)
				checkGroup(t, rows, []int{0, 1}, aggs)
			}
		}
	}
	// An argument that is not valid comes before a sum that fails.
	rows := []api.Row{row(num(most), null), row(num(1), word("a"))}
	checkGroup(t, rows, nil, []api.Agg{{Fn: api.AggSum}, {Fn: api.AggSum, Col: 1}})
	checkGroup(t, rows, nil, []api.Agg{{Fn: api.AggSum}, {Fn: api.AggRows, Col: 1}})
	checkGroup(t, rows, []int{0}, []api.Agg{{Fn: api.AggSum, Col: 1}})
}

// TestGroupsOfWrongArguments has numbers of columns, aggregates and lists that are not valid.
func TestGroupsOfWrongArguments(t *testing.T) {
	for _, rows := range wrongLists {
		for _, cols := range [][]int{nil, {0}} {
			checkGroup(t, rows, cols, nil)
			checkGroup(t, rows, cols, []api.Agg{{Fn: api.AggRows}})
		}
	}
	wide := slices.Repeat(row(num(1)), 70)
	for _, rows := range [][]api.Row{nil, {nil}, column(num(1)), {row(num(1), word("a"))}, {wide[:64]}, {wide[:65]}, {wide, wide}} {
		for _, col := range []int{0, 1, 2, -1, 62, 63, 64, 65, 69, 70, 256, 1 << 32, math.MaxInt, math.MinInt} {
			checkGroup(t, rows, []int{col}, nil)
			checkGroup(t, rows, []int{0, col}, nil)
			checkGroup(t, rows, []int{col, 0}, []api.Agg{{Fn: api.AggRows}})
			for fn := api.AggRows; fn <= api.AggAvg+1; fn++ {
				for _, distinct := range []bool{false, true} {
					agg := api.Agg{Fn: fn, Col: col, Distinct: distinct}
					checkGroup(t, rows, nil, []api.Agg{agg})
					checkGroup(t, rows, []int{0}, []api.Agg{{Fn: api.AggRows}, agg})
					checkGroup(t, rows, nil, []api.Agg{agg, {Fn: api.AggMin}})
				}
			}
		}
	}
	for fn := range 256 {
		checkGroup(t, nil, []int{0}, []api.Agg{{Fn: api.AggFn(fn)}})
		checkGroup(t, column(num(1)), nil, []api.Agg{{Fn: api.AggFn(fn)}})
	}
}

// TestAggregatesOfOtherKinds has columns of which the chapter lets no sums be taken, in one group or by nulls alone.
func TestAggregatesOfOtherKinds(t *testing.T) {
	for _, v := range []api.Value{null, num(1), word("1"), no} {
		rows := []api.Row{row(num(1), null), row(num(2), v), row(num(3), null)}
		for _, agg := range someAggs() {
			checkGroup(t, rows, []int{0}, []api.Agg{agg})
			checkGroup(t, rows, nil, []api.Agg{agg})
			checkGroup(t, rows[:1], nil, []api.Agg{agg})
		}
	}
}

func TestGroupsOfTheDocument(t *testing.T) {
	for i, x := range []struct {
		fn       api.AggFn
		distinct bool
		values   []api.Value
		want     api.Out
	}{
		{api.AggSum, false, []api.Value{num(most), num(1), num(-1)}, api.Out{V: num(most)}},
		{api.AggSum, false, []api.Value{num(most), num(1)}, api.Out{Err: api.ErrOverflow}},
		{api.AggSum, false, []api.Value{null, null}, api.Out{}},
		{api.AggAvg, false, []api.Value{num(most), num(most)}, api.Out{V: num(most)}},
		{api.AggAvg, false, []api.Value{num(-3), num(0)}, api.Out{V: num(-1)}},
		{api.AggMin, false, []api.Value{yes, no}, api.Out{V: no}},
		{api.AggCount, true, []api.Value{num(2), null, num(2)}, api.Out{V: num(1)}},
		{api.AggRows, false, []api.Value{num(2), null, num(2)}, api.Out{V: num(3)}},
		{api.AggAvg, false, []api.Value{num(least), num(least), num(least)}, api.Out{V: num(least)}},
		{api.AggSum, true, []api.Value{num(least), num(least)}, api.Out{V: num(least)}},
		{api.AggCount, false, nil, api.Out{V: num(0)}}, {api.AggAvg, false, nil, api.Out{}}, {api.AggMin, true, nil, api.Out{}}, {api.AggRows, true, nil, api.Out{Err: api.ErrArg}},
	} {
		if got := bag.Aggregate(x.fn, x.distinct, x.values); got != x.want {
			t.Errorf("%d: %v, want %v", i, got, x.want)
		}
	}
	four := []api.Row{row(num(1), num(5)), row(null, num(7)), row(num(1), null), row(null, num(1))}
	for i, x := range []struct {
		rows []api.Row
		cols []int
		aggs []api.Agg
		want []api.Row
	}{
		{four, []int{0}, []api.Agg{{Fn: api.AggRows}, {Fn: api.AggCount, Col: 1}, {Fn: api.AggSum, Col: 1}}, []api.Row{row(null, num(2), num(2), num(8)), row(num(1), num(2), num(1), num(5))}},
		{nil, nil, []api.Agg{{Fn: api.AggRows}, {Fn: api.AggMax, Col: 3}}, []api.Row{row(num(0), null)}},
		{nil, []int{0}, []api.Agg{{Fn: api.AggRows}, {Fn: api.AggMax, Col: 3}}, nil},
		{[]api.Row{nil, nil, nil}, nil, []api.Agg{{Fn: api.AggRows}}, column(num(3))},
		{four, nil, nil, []api.Row{nil}},
	} {
		if o := bag.Group(x.rows, x.cols, x.aggs); o.Err != api.OK || !sameRows(o.Rows, x.want) {
			t.Errorf("%d: %v, want %v", i, o, x.want)
		}
	}
}
