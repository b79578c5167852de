package algebra_test

import (
	"math"
	"reflect"
	"testing"

	"jointer/algebra"
	"jointer/api"
)

const example = "filter[exists{filter[eq(c0, c0^1), gt(c0, 3)](scan[1])}](scan[0])"

// P8.2

func TestSize(t *testing.T) {
	for _, x := range []struct {
		text string
		n    int
	}{
		{example, 11}, {"rows[:]", 1}, {"rows[int: (1), (2)]", 1}, {"union(scan[0], scan[0])", 3}, {"group[0 1: rows, sum 1](scan[0])", 2}, {"limit[0, 1; 2; 3](scan[0])", 2},
		{"project[c0, add(c0, c1)](scan[0])", 6}, {"inner[in(c0, {scan[0]}), TRUE](scan[0], scan[0])", 7}, {"project[scalar{project[scalar{scan[0]}](scan[0])}](scan[0])", 7},
	} {
		if n := size(t, read(t, x.text)); n != x.n {
			t.Errorf("the size of %s is %d", x.text, n)
		}
	}
	if n := sizeExpr(t, read(t, example).Conds[0]); n != 9 {
		t.Errorf("the size of the condition is %d", n)
	}
	for n := 398; n <= 404; n++ {
		size(t, api.Plan{Kids: make([]api.Plan, n-1)})
		size(t, api.Plan{Exprs: []api.Expr{{Op: api.OpOr, Kids: make([]api.Expr, n-2)}}})
		sizeExpr(t, api.Expr{Kids: make([]api.Expr, n-1)})
		sizeExpr(t, api.Expr{Sub: make([]api.Plan, n-1)})
	}
}

// junk is a plan that is not formed, with all fields.
func junk() api.Plan {
	leaf := func(n int) api.Plan { return api.Plan{Op: 99, Table: n} }
	x := func(n int) api.Expr {
		return api.Expr{Op: api.OpColumn, V: api.Value{Kind: 9, Int: 1, Text: "a"}, Up: n, N: -n, Sub: []api.Plan{leaf(n), leaf(n + 1)}, Kids: []api.Expr{{N: n}, {Sub: []api.Plan{leaf(n + 2)}}}}
	}
	return api.Plan{
		Op: api.PlanScan, Table: -1, Kinds: []api.Kind{9, 1}, Rows: []api.Row{{{Kind: 7}}, {}}, Conds: []api.Expr{x(1), x(10)}, Exprs: []api.Expr{x(20)},
		Cols: []int{-1, 5}, Aggs: []api.Agg{{Fn: 9, Col: -3, Distinct: true}}, Keys: []api.Key{{Col: -1}, {Desc: true}}, From: -7, Count: -8, Kids: []api.Plan{leaf(100), {Kids: []api.Plan{leaf(101)}, Exprs: []api.Expr{x(30)}}, leaf(102)},
	}
}

// TestEqual changes each field and element of a plan that has all of them.
func TestEqual(t *testing.T) {
	p := junk()
	var a places
	whole := clone(p)
	a.collect(reflect.ValueOf(&whole).Elem())
	for i := range a.all {
		q := clone(p)
		var b places
		b.collect(reflect.ValueOf(&q).Elem())
		v := b.all[i]
		switch {
		case v.Kind() == reflect.Slice && v.Len() > 0:
			v.Set(v.Slice(0, v.Len()-1))
		case v.Kind() == reflect.Slice:
			v.Set(reflect.Append(v, reflect.Zero(v.Type().Elem())))
		default:
			old := clone(v.Interface())
			if fill(v); v.Interface() == old {
				v.SetZero()
			}
		}
		if isEqual(t, p, q) {
			t.Errorf("%+v is equal to %+v", p, q)
		}
		isEqualExpr(t, p.Conds[0], q.Conds[0])
	}
	for _, empty := range []api.Plan{{Kinds: []api.Kind{}}, {Rows: []api.Row{}}, {Conds: []api.Expr{}}, {Exprs: []api.Expr{}}, {Cols: []int{}}, {Aggs: []api.Agg{}}, {Keys: []api.Key{}}, {Kids: []api.Plan{}}} {
		if !algebra.Equal(empty, api.Plan{}) || !algebra.Equal(api.Plan{}, empty) {
			t.Errorf("%#v is not equal to a plan without lists", empty)
		}
	}
	if !algebra.EqualExpr(api.Expr{Kids: []api.Expr{}, Sub: []api.Plan{}}, api.Expr{}) || !algebra.Equal(api.Plan{Rows: []api.Row{nil}}, api.Plan{Rows: []api.Row{{}}}) {
		t.Error("empty lists are not equal to nil")
	}
}

func TestParts(t *testing.T) {
	isParts := func(p api.Plan, want ...string) {
		t.Helper()
		list := parts(t, p)
		var got []string
		for _, part := range list {
			got = append(got, show(part))
		}
		if !same(got, want) {
			t.Errorf("the parts of %s are %q", show(p), got)
		}
	}
	isParts(read(t, example), "scan[0]", "filter[eq(c0, c0^1), gt(c0, 3)](scan[1])")
	isParts(read(t, "rows[:]"))
	isParts(read(t, "union(scan[1], scan[0])"), "scan[1]", "scan[0]")
	isParts(read(t, "inner[add(exists{scan[2]}, scalar{project[exists{scan[9]}](scan[3])}), exists{scan[4]}](scan[0], scan[1])"), "scan[0]", "scan[1]", "scan[2]", "project[exists{scan[9]}](scan[3])", "scan[4]")
	// A node's own subplan stands before those of its kids.
	isParts(read(t, "project[in(in(exists{scan[3]}, {scan[2]}), {scan[1]}), exists{scan[4]}](scan[0])"), "scan[0]", "scan[1]", "scan[2]", "scan[3]", "scan[4]")
	if n := len(parts(t, junk())); n != 3+3+3+3 {
		t.Errorf("%d parts of all lists", n)
	}
}

func TestPlaces(t *testing.T) {
	p := read(t, example)
	for _, x := range []struct {
		position []int
		text     string
	}{
		{nil, example}, {[]int{0}, "scan[0]"}, {[]int{1}, "filter[eq(c0, c0^1), gt(c0, 3)](scan[1])"}, {[]int{1, 0}, "scan[1]"},
		{[]int{2}, ""}, {[]int{-1}, ""}, {[]int{0, 0}, ""}, {[]int{1, 1}, ""}, {[]int{1, -1}, ""}, {[]int{1, 0, 0}, ""}, {[]int{2, 0}, ""}, {[]int{math.MaxInt64}, ""}, {[]int{math.MinInt64}, ""},
	} {
		want := api.OK
		if x.text == "" {
			want = api.ErrPlace
		}
		if q, e := at(t, p, x.position); e != want || e == api.OK && show(q) != x.text {
			t.Errorf("at %v: %s, %v", x.position, show(q), e)
		}
		if _, e := put(t, p, x.position, read(t, "rows[int: (5)]")); e != want {
			t.Errorf("Put at %v: %v", x.position, e)
		}
		if _, e := outerOf(t, plain(), p, nil, x.position); e != want {
			t.Errorf("Outer at %v: %v", x.position, e)
		}
	}
	if q, _ := put(t, p, []int{1, 0}, read(t, "rows[int:]")); show(q) != "filter[exists{filter[eq(c0, c0^1), gt(c0, 3)](rows[int:])}](scan[0])" {
		t.Errorf("Put: %s", show(q))
	}
	put(t, junk(), []int{1, 1}, junk())
	put(t, junk(), nil, junk())
	at(t, junk(), []int{11})
	// What is put into a plan may be this plan itself.
	given := read(t, example)
	got, e := algebra.Put(given, []int{1}, given)
	if e != api.OK || !same(given, p) || sharing(given, got) || show(got) != "filter[exists{"+example+"}](scan[0])" {
		t.Errorf("Put of a plan into itself: %s, %v", show(got), e)
	}
}

func TestOuter(t *testing.T) {
	outside := [][]api.Kind{{api.KindBool}, nil}
	for _, x := range []struct {
		text     string
		position []int
		want     [][]api.Kind
	}{
		{example, []int{1, 0}, [][]api.Kind{{1, 2}, {3}, nil}}, {example, []int{0}, outside}, {example, nil, outside},
		{"inner[exists{scan[2]}](scan[0], scan[1])", []int{2}, [][]api.Kind{{1, 2, 1}, {3}, nil}}, {"semi[exists{scan[2]}](scan[0], scan[1])", []int{2}, [][]api.Kind{{1, 2, 1}, {3}, nil}},
		{"notin[scalar{scan[1]}](scan[0], scan[1])", []int{2}, [][]api.Kind{{1, 2}, {3}, nil}}, {"notin[scalar{scan[1]}](scan[0], scan[1])", []int{1}, outside},
		{"project[exists{project[exists{scan[0]}](scan[1])}](scan[0])", []int{1, 1}, [][]api.Kind{{1}, {1, 2}, {3}, nil}}, {"filter[exists{distinct(scan[1])}](group[1: rows](scan[0]))", []int{1, 0}, [][]api.Kind{{2, 1}, {3}, nil}},
		{"filter[exists{scan[1]}](rows[null bool: (NULL, TRUE)])", []int{1}, [][]api.Kind{{0, 3}, {3}, nil}},
	} {
		if got, e := outerOf(t, plain(), read(t, x.text), outside, x.position); e != api.OK || !same(got, x.want) {
			t.Errorf("outside of %v in %s are %v, %v", x.position, x.text, got, e)
		}
	}
	for text, want := range map[string]api.Errno{"scan[9]": api.ErrColumn, "filter[5](scan[0])": api.ErrKind, "scan[0]": api.ErrPlace} {
		if _, e := outerOf(t, plain(), read(t, text), outside, []int{7}); e != want {
			t.Errorf("%s: %v", text, e)
		}
	}
}
