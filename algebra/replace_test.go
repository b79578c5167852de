package algebra_test

import (
	"fmt"
	"math"
	"reflect"
	"slices"
	"testing"

	"jointer/algebra"
	"jointer/api"
)

// The reference of this file knows no numbers of rows within subplans: it writes a plan or an expression with all its fields, but a column of a row outside by what a closure says of it.

// naming says how a column of a row outside is written, in the expressions of so many operators, and whether it is all that is written of the node.
type naming func(row, col, in int) (string, bool)

// named returns the naming that writes the number of the row, for a node that will stand in the expressions of so many more operators. If the node's own number is then too great, it addresses no row.
func named(more int) naming {
	return func(row, col, in int) (string, bool) {
		if up := row + in + more; up > greatest {
			return fmt.Sprintf("Up%#v", up), false
		}
		return fmt.Sprintf("row %d", row), false
	}
}

// write writes what stands in the expressions of so many operators.
func (name naming) write(v reflect.Value, in int) string {
	switch v.Kind() {
	case reflect.Slice:
		s := "["
		for i := range v.Len() {
			s += name.write(v.Index(i), in) + ","
		}
		return s + "]"
	case reflect.Struct:
		s, row := "{", ""
		if x, ok := v.Interface().(api.Expr); ok && x.Op == api.OpColumn && x.Up >= in && x.Up <= greatest {
			whole := false
			if row, whole = name(x.Up-in, x.N, in); whole {
				return row
			}
		}
		for i := range v.NumField() {
			field, depth := v.Type().Field(i).Name, in
			if field == "Conds" || field == "Exprs" {
				depth++
			}
			if field == "Up" && row != "" {
				s += row + " "
				continue
			}
			s += field + name.write(v.Field(i), depth) + " "
		}
		return s + "}"
	}
	return fmt.Sprintf("%#v", v)
}

func (name naming) text(x any) string { return name.write(reflect.ValueOf(x), 0) }

// refReplace writes x with the columns of the first rows replaced.
func refReplace(x any, lists [][]api.Expr) (s string, e api.Errno) {
	s = naming(func(row, col, in int) (string, bool) {
		if row >= len(lists) {
			return named(0)(row-len(lists)+1, col, in)
		}
		if col < 0 || col >= len(lists[row]) {
			e = api.ErrColumn
			return "", true
		}
		return named(in).text(lists[row][col]), true
	}).text(x)
	return s, e
}

// refLower writes x for one row less outside.
func refLower(x any) (s string, e api.Errno) {
	s = naming(func(row, col, in int) (string, bool) {
		if row == 0 {
			e = api.ErrColumn
		}
		return named(0)(row-1, col, in)
	}).text(x)
	return s, e
}

// refUsed returns the columns of a row, and the number of rows up to the last one that is addressed.
func refUsed(x any, up int) (cols []int, depth int) {
	naming(func(row, col, in int) (string, bool) {
		if row == up && !slices.Contains(cols, col) {
			cols = append(cols, col)
		}
		depth = max(depth, row+1)
		return "", false
	}).text(x)
	slices.Sort(cols)
	return cols, depth
}

// isMade checks what was made of something: that it is written as it should be, or that there is an error.
func isMade[T any](t *testing.T, what string, x, got T, e api.Errno, want string, err api.Errno) {
	t.Helper()
	text := named(0).text(got)
	if err != api.OK {
		var zero T
		want = named(0).text(zero)
	}
	if e != err || text != want {
		t.Errorf("%s of %+v is %s, %v; want %s, %v", what, x, text, e, want, err)
	}
}

func replace(t *testing.T, x api.Expr, lists [][]api.Expr) (api.Expr, api.Errno) {
	t.Helper()
	gx, gl := roomy(x), roomy(lists)
	got, e := algebra.Replace(gx, gl)
	checkMemory(t, []any{gx, gl}, []any{x, lists}, got)
	want, err := refReplace(x, lists)
	isMade(t, fmt.Sprintf("Replace by %+v", lists), x, got, e, want, err)
	return got, e
}

func replacePlan(t *testing.T, p api.Plan, lists [][]api.Expr) (api.Plan, api.Errno) {
	t.Helper()
	gp, gl := roomy(p), roomy(lists)
	got, e := algebra.ReplacePlan(gp, gl)
	checkMemory(t, []any{gp, gl}, []any{p, lists}, got)
	want, err := refReplace(p, lists)
	isMade(t, fmt.Sprintf("ReplacePlan by %+v", lists), p, got, e, want, err)
	return got, e
}

func lower(t *testing.T, p api.Plan) (api.Plan, api.Errno) {
	t.Helper()
	given := roomy(p)
	got, e := algebra.Lower(given)
	checkMemory(t, []any{given}, []any{p}, got)
	want, err := refLower(p)
	isMade(t, "Lower", p, got, e, want, err)
	return got, e
}

// uses checks Used or UsedPlan, and Depth.
func uses(t *testing.T, x any, up int) []int {
	t.Helper()
	var got []int
	want, depth := refUsed(x, up)
	given := roomyValue(reflect.ValueOf(x)).Interface()
	switch y := given.(type) {
	case api.Expr:
		got = algebra.Used(y, up)
	case api.Plan:
		got = algebra.UsedPlan(y, up)
		if d := algebra.Depth(y); d != depth {
			t.Errorf("the depth of %+v is %d; want %d", x, d, depth)
		}
	}
	checkMemory(t, []any{given}, []any{x}, got)
	if !slices.Equal(got, want) {
		t.Errorf("the columns of the row %d that %+v addresses are %v; want %v", up, x, got, want)
	}
	return got
}

// P8.3

func TestUsed(t *testing.T) {
	for _, x := range []struct {
		text string
		want [][]int
	}{
		{"exists{filter[eq(c0, c0^1), gt(c0, 3)](scan[1])}", [][]int{{0}, nil}},
		{"add(c7, mul(c2, add(c7, c0^1)))", [][]int{{2, 7}, {0}, nil}}, {"5", [][]int{nil}}, {"and()", [][]int{nil}},
		{"in(c1, {project[c2^1, c3^2, c4](scan[0])})", [][]int{{1, 2}, {3}, nil}},
		{"exists{filter[c5^1, exists{project[c6^2, c7^1, c8^3](filter[c9^2](scan[0]))}](filter[c10^1](scan[0]))}", [][]int{{5, 6, 9, 10}, {8}, nil}},
		{"scalar{inner[c1](filter[c2^1](scan[0]), project[c3^2](scan[0]))}", [][]int{{2}, {3}, nil}},
	} {
		for up, want := range x.want {
			if got := uses(t, expr(t, x.text), up); !slices.Equal(got, want) {
				t.Errorf("the columns of the row %d in %s are %v", up, x.text, got)
			}
		}
		uses(t, expr(t, x.text), -1)
		uses(t, expr(t, x.text), math.MinInt64)
		uses(t, expr(t, x.text), math.MaxInt64)
	}
	for _, x := range []struct {
		text  string
		depth int
		want  [][]int
	}{
		{"filter[eq(c0, c0^1), gt(c0, 3)](scan[1])", 1, [][]int{{0}, nil}}, {example, 0, [][]int{nil}}, {"scan[0]", 0, [][]int{nil}},
		{"project[c5^3, c1^1, c1](filter[c0^1, c5^1](scan[0]))", 3, [][]int{{0, 1, 5}, nil, {5}, nil}},
		{"project[exists{project[c3^2, c4^1, c5^3](scan[0])}](scan[0])", 2, [][]int{{3}, {5}, nil}},
	} {
		p := read(t, x.text)
		if d := algebra.Depth(p); d != x.depth {
			t.Errorf("the depth of %s is %d", x.text, d)
		}
		for up, want := range x.want {
			if got := uses(t, p, up); !slices.Equal(got, want) {
				t.Errorf("the columns of the row outside %d in %s are %v", up, x.text, got)
			}
		}
		uses(t, p, -1)
	}
}

// column is a node that addresses a column, in the expression of an operator that stands in so many others.
func column(up, n, in int) api.Expr {
	x := api.Expr{Op: api.OpColumn, Up: up, N: n}
	for range in {
		x = api.Expr{Sub: []api.Plan{{Exprs: []api.Expr{x}}}}
	}
	return x
}

// TestEnds tries numbers of rows and columns that no formed expression has, and the greatest ones.
func TestEnds(t *testing.T) {
	for in := range 3 {
		for _, up := range []int{-1, math.MinInt64, greatest + 1, math.MaxInt64, 0, 1, 2, greatest - 1, greatest} {
			x := column(up, -5, in)
			p := api.Plan{Op: 50, Conds: []api.Expr{x}}
			row := up - in
			for _, at := range []int{-1, 0, 1, 2, row, row + 1, row - 1, math.MaxInt64} {
				uses(t, x, at)
				uses(t, p, at)
			}
			lower(t, p)
			replacePlan(t, p, nil)
			got, e := replace(t, x, nil)
			if up == greatest && !same(got, column(greatest+1, -5, in)) || up > greatest && !same(got, x) {
				t.Errorf("Replace of %+v without lists is %+v, %v", x, got, e)
			}
			for _, lists := range [][][]api.Expr{{nil}, {{{}}, nil}, {nil, {{}}}, {nil, nil, nil}} {
				replace(t, x, lists)
				replacePlan(t, p, lists)
			}
		}
	}
	for _, n := range []int{-1, 0, 1, 2, 3, math.MaxInt64, math.MinInt64} {
		replace(t, column(1, n, 0), [][]api.Expr{{{}}, {{}, {}}})
		replace(t, column(2, n, 1), [][]api.Expr{{{}}, {{}, {}}})
		replace(t, column(2, n, 2), [][]api.Expr{{{}}, {{}, {}}})
	}
}

// TestRaise puts copies where their numbers grow above the greatest one.
func TestRaise(t *testing.T) {
	lists := [][]api.Expr{{{Op: api.OpColumn, Up: greatest}, {Op: api.OpColumn, Up: greatest - 1}, column(greatest, 7, 1), {Op: api.OpColumn, Up: -3}, column(0, 7, 1), column(greatest+1, 7, 1)}}
	for n, want := range []api.Expr{column(greatest+2, 0, 0), column(greatest+1, 0, 0), column(greatest+2, 7, 1), column(-3, 0, 0), column(0, 7, 1), column(greatest+1, 7, 1)} {
		got, e := algebra.Replace(column(2, n, 2), lists)
		if e != api.OK || !same(got.Sub[0].Exprs[0].Sub[0].Exprs[0], want) {
			t.Errorf("the copy number %d is %+v, %v", n, got, e)
		}
	}
}

// TestColumnKids looks for what stands below a column: it is changed likewise where the column stays, and is not looked at where it goes.
func TestColumnKids(t *testing.T) {
	below := []api.Expr{{Op: api.OpColumn, Up: 0, N: 9}, {Op: api.OpColumn, Up: 1, N: 1}}
	sub := []api.Plan{{Exprs: []api.Expr{{Op: api.OpColumn, Up: 1, N: 9}}}}
	for up := range 3 {
		x := api.Expr{Op: api.OpColumn, Up: up, Kids: below, Sub: sub}
		want := api.ErrColumn
		if up == 0 {
			want = api.OK
		}
		if got, e := replace(t, x, [][]api.Expr{{{V: api.Value{Kind: 1}}}}); e != want {
			t.Errorf("row %d: %+v, %v", up, got, e)
		}
		if got, e := replace(t, x, [][]api.Expr{make([]api.Expr, 10)}); e != api.OK || up > 0 && len(got.Kids) != 2 {
			t.Errorf("row %d: %+v, %v", up, got, e)
		}
		p := api.Plan{Op: api.PlanFilter, Conds: []api.Expr{x}}
		replacePlan(t, p, [][]api.Expr{nil, make([]api.Expr, 10)})
		lower(t, p)
		uses(t, x, 0)
		uses(t, p, 0)
	}
}

func TestReplace(t *testing.T) {
	for _, x := range []struct {
		text  string
		lists []string
		want  string
	}{
		{"add(c1, c0^1)", []string{"c5, mul(c2, c0^2)"}, "add(mul(c2, c0^2), c0^1)"}, {"add(c1, c0^1)", []string{"c0, c1", "c2"}, "add(c1, c2)"}, {"add(c1, c0^1)", nil, "add(c1^1, c0^2)"},
		{"exists{filter[eq(c0, c1^1)](scan[1])}", []string{"c7, c8"}, "exists{filter[eq(c0, c8^1)](scan[1])}"},
		{"5", []string{"c0"}, "5"}, {"c0", []string{"exists{filter[c0, c0^1, c0^2](scan[0])}"}, "exists{filter[c0, c0^1, c0^2](scan[0])}"},
		{"exists{filter[c0^1](scan[0])}", []string{"exists{filter[c0, c0^1, c0^2](scan[0])}"}, "exists{filter[exists{filter[c0, c0^2, c0^3](scan[0])}](scan[0])}"},
		{"exists{filter[exists{filter[c0^2, c0^1, c1^3](filter[c0^2](scan[0]))}](scan[0])}", []string{"add(c4, c5^1)"}, "exists{filter[exists{filter[add(c4^2, c5^3), c0^1, c1^3](filter[add(c4^2, c5^3)](scan[0]))}](scan[0])}"},
		{"and(c0^2, c0^1, c0)", []string{"c1", "c2^1"}, "and(c0^1, c2^1, c1)"}, {"and(c0^2, c0^1, c0)", []string{"c3", "c4", "c5"}, "and(c5, c4, c3)"},
		{"in(c0, {project[c0^1](scan[0])})", []string{"c9"}, "in(c9, {project[c9^1](scan[0])})"},
		{"and(c1)", []string{"c0"}, ""}, {"exists{filter[c2^2](scan[0])}", []string{"c0, c0, c0", "c0, c0"}, ""}, {"c0^1", []string{"c0, c0", ""}, ""},
	} {
		var lists [][]api.Expr
		for _, texts := range x.lists {
			lists = append(lists, exprs(t, texts))
		}
		got, e := replace(t, expr(t, x.text), lists)
		if e == api.OK && refExprText(got) != x.want || (e != api.OK) != (x.want == "") {
			t.Errorf("Replace of %s by %q is %+v, %v", x.text, x.lists, got, e)
		}
	}
}

func TestReplacePlan(t *testing.T) {
	for _, x := range []struct {
		text  string
		lists []string
		want  string
	}{
		{"filter[eq(c0, c1^1)](scan[1])", []string{"c9, 5"}, "filter[eq(c0, 5)](scan[1])"}, {"filter[eq(c0, c0^1)](scan[1])", []string{"c9, 5"}, "filter[eq(c0, c9^1)](scan[1])"}, {"filter[eq(c0, c0^1)](scan[1])", nil, "filter[eq(c0, c0^2)](scan[1])"},
		{"project[c0^1, c0^2, c0^3, c0](filter[c1^1](scan[0]))", []string{"c5^1, c6", "c7"}, "project[c5^2, c7^1, c0^2, c0](filter[c6^1](scan[0]))"},
		{"project[exists{filter[c0^2, c0^1, c0^3](scan[0])}](scan[0])", []string{"c4"}, "project[exists{filter[c4^2, c0^1, c0^3](scan[0])}](scan[0])"},
		{"left[c0^1](filter[c0^1](scan[0]), filter[c0^1](scan[0]))", []string{"7"}, "left[7](filter[7](scan[0]), filter[7](scan[0]))"},
		{"filter[c1^1](scan[0])", []string{"c0"}, ""}, {"scan[0]", []string{""}, "scan[0]"},
	} {
		var lists [][]api.Expr
		for _, texts := range x.lists {
			lists = append(lists, exprs(t, texts))
		}
		got, e := replacePlan(t, read(t, x.text), lists)
		if e == api.OK && show(got) != x.want || (e != api.OK) != (x.want == "") {
			t.Errorf("ReplacePlan of %s by %q is %s, %v", x.text, x.lists, show(got), e)
		}
	}
}

func TestLower(t *testing.T) {
	for text, want := range map[string]string{
		"filter[eq(c0, c1^2)](scan[1])": "filter[eq(c0, c1^1)](scan[1])", "filter[eq(c0, c1^1)](scan[1])": "", "scan[1]": "scan[1]", example: example,
		"project[exists{filter[c1^1, c2^3](scan[0])}, c5^4](scan[0])": "project[exists{filter[c1^1, c2^2](scan[0])}, c5^3](scan[0])", "project[exists{filter[c1^2](scan[0])}](scan[0])": "", "sort[0](union(scan[0], filter[c0^1](scan[0])))": "",
	} {
		got, e := lower(t, read(t, text))
		if e == api.OK && show(got) != want || (e != api.OK) != (want == "") {
			t.Errorf("Lower of %s is %s, %v", text, show(got), e)
		}
	}
	lower(t, junk())
	uses(t, junk(), 0)
	replacePlan(t, junk(), nil)
	replacePlan(t, junk(), [][]api.Expr{{column(3, 3, 1)}})
}
