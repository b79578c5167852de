package calc_test

import (
	"reflect"
	"slices"
	"testing"

	"jointer/api"
	"jointer/calc"
)

// P5.3

func rows(l ...api.Row) api.Outcome { return api.Outcome{Rows: l} }

// column returns the outcome with rows of one value.
func column(l ...api.Out) api.Outcome {
	var o api.Outcome
	for _, x := range l {
		o.Rows = append(o.Rows, api.Row{x.V})
	}
	return o
}

func cloneOf(o api.Outcome) api.Outcome {
	c := api.Outcome{Err: o.Err, Rows: slices.Clone(o.Rows)}
	for i, r := range c.Rows {
		c.Rows[i] = slices.Clone(r)
	}
	return c
}

// checkSubs checks all that is said of an outcome.
func checkSubs(t *testing.T, o api.Outcome, xs ...api.Out) {
	t.Helper()
	given := cloneOf(o)
	if got, want := calc.Exists(given), wantExists(o); got != want {
		t.Errorf("Exists(%v) is %v, want %v", o, got, want)
	}
	if got, want := calc.Scalar(given), wantScalar(o); got != want {
		t.Errorf("Scalar(%v) is %v, want %v", o, got, want)
	}
	for _, x := range xs {
		if got, want := calc.In(x, given), wantIn(x, o); got != want {
			t.Errorf("In(%v, %v) is %v, want %v", x, o, got, want)
		}
	}
	if !reflect.DeepEqual(given, cloneOf(o)) {
		t.Errorf("the outcome %v was changed: %v", o, given)
	}
}

var values = []api.Out{unknown, no, yes, num(0), num(1), num(-1 << 63), word(""), word("1"), word("a")}

func TestSubsOfAllShortColumns(t *testing.T) {
	xs := append(slices.Clone(values), div, many, wrong)
	for n := range 5 {
		for l := range lists(values, n) {
			checkSubs(t, column(l...), xs...)
		}
	}
}

func TestSubsOfLongColumns(t *testing.T) {
	l := slices.Repeat([]api.Out{num(5)}, 10_000)
	for _, last := range values {
		l[len(l)-1] = last
		checkSubs(t, column(l...), append(slices.Clone(values), num(5), over)...)
	}
}

// TestErrorsOfSubs has all codes, with and without rows.
func TestErrorsOfSubs(t *testing.T) {
	xs := slices.Concat(some, wrongOuts)
	for e := api.Errno(-300); e <= 300; e++ {
		checkSubs(t, api.Outcome{Err: e}, xs...)
		checkSubs(t, api.Outcome{Err: e, Rows: []api.Row{}}, xs...)
		for _, l := range [][]api.Row{{{}}, {{num(1).V}}, {{unknown.V}, {num(7).V}}} {
			checkSubs(t, api.Outcome{Err: e, Rows: l}, xs...)
		}
	}
}

func TestRowsOfOtherWidths(t *testing.T) {
	one, two, three := num(1).V, word("a").V, api.Value{}
	l := []api.Row{nil, {}, {one}, {three}, {one, one}, {one, two}, {three, one, two}}
	for n := range 4 {
		for some := range lists(l, n) {
			checkSubs(t, rows(some...), num(1), unknown, word("a"), many, wrong)
		}
	}
}

func TestRowsWithValuesThatAreNotValid(t *testing.T) {
	xs := []api.Out{num(1), unknown, div, wrong}
	for _, x := range wrongOuts {
		bad, good := x.V, num(1).V
		checkSubs(t, rows(api.Row{bad}), xs...)
		checkSubs(t, rows(api.Row{good}, api.Row{good}, api.Row{bad}), xs...)
		checkSubs(t, rows(api.Row{bad}, api.Row{good}), xs...)
		checkSubs(t, rows(api.Row{good, bad}), xs...)
		checkSubs(t, rows(api.Row{}, api.Row{bad, good}, api.Row{}), xs...)
		checkSubs(t, api.Outcome{Err: api.ErrMany, Rows: []api.Row{{bad}}}, xs...)
	}
}

func TestSubsOfTheDocument(t *testing.T) {
	one, three := num(1), num(3)
	failed := api.Outcome{Err: api.ErrDivide}
	for i, x := range []struct{ got, want api.Out }{
		{calc.In(three, column(one, unknown)), unknown}, {calc.In(three, column(unknown, three)), yes}, {calc.In(unknown, rows()), no},
		{calc.In(unknown, column(one)), unknown}, {calc.In(unknown, column(unknown)), unknown}, {calc.In(three, column(one)), no}, {calc.In(three, rows()), no},
		{calc.In(three, column(word("3"), yes)), no}, {calc.In(long, failed), div}, {calc.In(div, api.Outcome{Err: api.ErrMany}), div}, {calc.In(long, rows()), long}, {calc.In(three, failed), div}, {calc.In(unknown, failed), div},
		{calc.In(wrong, failed), wrong}, {calc.In(div, rows(nil)), wrong}, {calc.In(one, rows(api.Row{one.V}, api.Row{one.V, one.V})), wrong},
		{calc.Exists(rows()), no}, {calc.Exists(rows(nil)), yes}, {calc.Exists(column(unknown)), yes}, {calc.Exists(failed), div}, {calc.Exists(api.Outcome{Err: api.ErrLimit}), wrong},
		{calc.Scalar(rows()), unknown}, {calc.Scalar(column(three)), three}, {calc.Scalar(column(unknown)), unknown}, {calc.Scalar(column(one, one)), many}, {calc.Scalar(rows(nil, nil)), wrong}, {calc.Scalar(failed), div},
	} {
		if x.got != x.want {
			t.Errorf("%d: %v, want %v", i, x.got, x.want)
		}
	}
}
