package algebra_test

import (
	"math"
	"reflect"
	"strings"
	"testing"

	"jointer/algebra"
	"jointer/api"
)

// checkEndless checks what is said of trees that contain themselves.
func checkEndless(t *testing.T, x api.Expr, p api.Plan) {
	t.Helper()
	if n := algebra.SizeExpr(x); n != 401 {
		t.Errorf("the size of an expression without end is %d", n)
	}
	if n := algebra.Size(p); n != 401 {
		t.Errorf("the size of a plan without end is %d", n)
	}
	if _, e := algebra.Kind(nil, x, nil); e != api.ErrLimit {
		t.Errorf("an expression without end: %v", e)
	}
	for _, p := range []api.Plan{p, {Op: api.PlanFilter, Kids: []api.Plan{{}}, Conds: []api.Expr{x}}, {Op: api.PlanFilter, Conds: []api.Expr{{Op: api.OpExists, Sub: []api.Plan{p}}}}} {
		if e := algebra.Check(nil, p, nil); e != api.ErrLimit {
			t.Errorf("a plan without end: %v", e)
		}
	}
}

// filled returns, for each field of a struct but Op, the struct with something in this field.
func filled[T any](x T) []T {
	var l []T
	for i := range reflect.TypeFor[T]().NumField() {
		made := clone(x)
		f := reflect.ValueOf(&made).Elem().Field(i)
		if reflect.TypeFor[T]().Field(i).Name == "Op" || !f.IsZero() {
			continue
		}
		if f.Kind() == reflect.Slice {
			f.Set(reflect.MakeSlice(f.Type(), 1, 1))
		} else {
			fill(f)
		}
		l = append(l, made)
	}
	return l
}

// P8.1, P8.4: which plans and expressions are formed.

// TestFields gives each operator a value in each field, in lists with each number of kids, and subplans.
func TestFields(t *testing.T) {
	for op := range api.PlanOp(25) {
		for kids := range 4 {
			p := api.Plan{Op: op, Kids: make([]api.Plan, kids)}
			for _, q := range append(filled(p), p, api.Plan{Op: op, Kids: p.Kids, Exprs: make([]api.Expr, 2)}) {
				printed(t, q)
				columns(t, plain(), q, nil)
			}
		}
	}
	for op := range api.Op(40) {
		for kids := range 4 {
			for subs := range 3 {
				x := api.Expr{Op: op, Kids: make([]api.Expr, kids), Sub: make([]api.Plan, subs)}
				for _, y := range append(filled(x), x, api.Expr{Op: op, V: api.Value{Kind: 1}, Kids: x.Kids, Sub: x.Sub}) {
					printedExpr(t, y)
					kindOf(t, plain(), y, [][]api.Kind{{1}})
				}
			}
		}
	}
	for _, op := range []int{200, 255} {
		printed(t, api.Plan{Op: api.PlanOp(op)})
		printedExpr(t, api.Expr{Op: api.Op(op)})
	}
}

// TestNumbers tries numbers around the ends of their range wherever numbers stand.
func TestNumbers(t *testing.T) {
	leaf := []api.Plan{{}}
	for _, n := range []int{math.MinInt64, -greatest - 1, -1, 0, 1, greatest - 1, greatest, greatest + 1, 1 << 32, math.MaxInt64} {
		for _, p := range []api.Plan{
			{Op: api.PlanScan, Table: n}, {Op: api.PlanLimit, From: n, Kids: leaf}, {Op: api.PlanLimit, Count: n, Kids: leaf}, {Op: api.PlanLimit, Keys: []api.Key{{}, {Col: n}}, Kids: leaf}, {Op: api.PlanSort, Keys: []api.Key{{Col: n, Desc: true}}, Kids: leaf},
			{Op: api.PlanGroup, Cols: []int{0, n}, Kids: leaf}, {Op: api.PlanGroup, Aggs: []api.Agg{{Fn: api.AggMin}, {Fn: api.AggMax, Col: n, Distinct: true}}, Kids: leaf}, {Op: api.PlanGroup, Aggs: []api.Agg{{Col: n}}, Kids: leaf},
		} {
			if _, e := printed(t, p); n >= 0 && n <= greatest && p.Op != api.PlanGroup && e != api.OK {
				t.Errorf("%+v: %v", p, e)
			}
			columns(t, plain(), p, nil)
		}
		for _, x := range []api.Expr{{Op: api.OpColumn, N: n}, {Op: api.OpColumn, Up: n}, {Op: api.OpColumn, Up: n, N: n}, {Op: api.OpNeg, Kids: []api.Expr{{Op: api.OpColumn, N: n}}}} {
			if _, e := printedExpr(t, x); (e == api.OK) != (n >= 0 && n <= greatest) {
				t.Errorf("%+v: %v", x, e)
			}
			kindOf(t, plain(), x, [][]api.Kind{{1}})
		}
	}
}

// TestAggs tries all aggregates; AggRows has neither a column nor Distinct.
func TestAggs(t *testing.T) {
	for fn := range api.AggFn(9) {
		for col := range 3 {
			for _, distinct := range []bool{false, true} {
				p := api.Plan{Op: api.PlanGroup, Aggs: []api.Agg{{}, {Fn: fn, Col: col, Distinct: distinct}}, Kids: []api.Plan{{Op: api.PlanScan}}}
				printed(t, p)
				columns(t, plain(), p, nil)
			}
		}
	}
}

// TestRows tries kinds, and values of all kinds, as they are and as they are not valid.
func TestRows(t *testing.T) {
	values := []api.Value{{}, {Kind: 1}, {Kind: 1, Int: -5}, {Kind: 2, Text: "a"}, {Kind: 2}, {Kind: 3}, {Kind: 3, Int: 1}, {Kind: 3, Int: 2}, {Kind: 4}, {Int: 1}, {Text: "a"}, {Kind: 1, Text: "a"}, {Kind: 2, Int: 1}, {Kind: 3, Text: "a"}, {Kind: 2, Text: strings.Repeat("'", 100)}, {Kind: 2, Text: strings.Repeat("a", 101)}}
	for k := range api.Kind(6) {
		for _, v := range values {
			for _, p := range []api.Plan{
				{Kinds: []api.Kind{k}, Rows: []api.Row{{v}}}, {Kinds: []api.Kind{1, k}, Rows: []api.Row{{{}, {}}, {{}, v}}}, {Kinds: []api.Kind{k}}, {Kinds: []api.Kind{k}, Rows: []api.Row{{v, v}}}, {Kinds: []api.Kind{k, k}, Rows: []api.Row{{v, v}, {v}}}, {Rows: []api.Row{{v}}}, {Rows: []api.Row{{}, nil}},
			} {
				printed(t, p)
				columns(t, nil, p, nil)
			}
			printedExpr(t, api.Expr{V: v})
			kindOf(t, nil, api.Expr{V: v}, nil)
		}
	}
}

// TestParted looks for what is not formed in each place where plans and expressions stand.
func TestParted(t *testing.T) {
	bad, worse := api.Expr{Op: api.OpName}, api.Plan{Op: 99}
	in := func(x api.Expr, p api.Plan) []api.Plan {
		return []api.Plan{
			{Op: api.PlanDistinct, Kids: []api.Plan{p}}, {Op: api.PlanUnion, Kids: []api.Plan{{}, p}}, {Op: api.PlanFilter, Kids: []api.Plan{p}},
			{Op: api.PlanFilter, Conds: []api.Expr{{}, x}, Kids: []api.Plan{{}}}, {Op: api.PlanProject, Exprs: []api.Expr{{}, x}, Kids: []api.Plan{{}}}, {Op: api.PlanNotIn, Exprs: []api.Expr{x}, Kids: []api.Plan{{}, {}}},
			{Op: api.PlanProject, Exprs: []api.Expr{{Op: api.OpOr, Kids: []api.Expr{{}, x}}}, Kids: []api.Plan{{}}}, {Op: api.PlanProject, Exprs: []api.Expr{{Op: api.OpExists, Sub: []api.Plan{p}}}, Kids: []api.Plan{{}}}, {Op: api.PlanProject, Exprs: []api.Expr{{Op: api.OpIn, Kids: []api.Expr{x}, Sub: []api.Plan{p}}}, Kids: []api.Plan{{}}},
		}
	}
	for i, p := range in(bad, worse) {
		if _, e := printed(t, p); e != api.ErrForm {
			t.Errorf("place %d: Print of %+v is %v", i, p, e)
		}
		if _, e := columns(t, nil, p, nil); e != api.ErrForm {
			t.Errorf("place %d: Columns of %+v is %v", i, p, e)
		}
	}
	for i, p := range in(api.Expr{}, api.Plan{}) {
		if _, e := printed(t, p); e != api.OK {
			t.Errorf("place %d: Print of %+v is %v", i, p, e)
		}
	}
}
