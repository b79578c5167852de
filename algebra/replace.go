package algebra

import (
	"iter"
	"slices"

	"jointer/api"
)

// Used returns the columns of the row number up that an expression addresses.
func Used(e api.Expr, up int) []int { return used(exprNodes(&e), up) }

// UsedPlan returns the columns of the row outside number up that a plan addresses.
func UsedPlan(p api.Plan, up int) []int { return used(nodes(&p), up) }

func used(nodes iter.Seq[node], up int) []int {
	var cols []int
	for row, col := range rows(nodes) {
		if row == up {
			cols = append(cols, col)
		}
	}
	slices.Sort(cols)
	return slices.Compact(cols)
}

// Depth returns the number of rows outside up to the last one that a plan addresses.
func Depth(p api.Plan) int {
	depth := 0
	for row := range rows(nodes(&p)) {
		depth = max(depth, row+1)
	}
	return depth
}

// Replace returns an expression with the columns of the first rows replaced.
func Replace(e api.Expr, lists [][]api.Expr) (api.Expr, api.Errno) {
	r := replacer{instead: oneOf(lists)}
	made := r.expr(e)
	if r.err != api.OK {
		return api.Expr{}, r.err
	}
	return made, api.OK
}

// ReplacePlan returns a plan with the columns of the first rows outside replaced.
func ReplacePlan(p api.Plan, lists [][]api.Expr) (api.Plan, api.Errno) {
	return replacePlan(p, oneOf(lists))
}

// Lower returns a plan for one row less outside.
func Lower(p api.Plan) (api.Plan, api.Errno) {
	return replacePlan(p, func(row, _ int) (*api.Expr, int, api.Errno) {
		if row == 0 {
			return nil, 0, api.ErrColumn
		}
		return nil, row - 1, api.OK
	})
}

func replacePlan(p api.Plan, with instead) (api.Plan, api.Errno) {
	r := replacer{instead: with}
	made := r.plan(p)
	if r.err != api.OK {
		return api.Plan{}, r.err
	}
	return made, api.OK
}

func copyPlan(p api.Plan) api.Plan {
	made, _ := replacePlan(p, raised(0))
	return made
}

// instead says what comes instead of a column of a row outside: an expression, or (nil) the same column of the row with another number.
type instead func(row, col int) (with *api.Expr, number int, e api.Errno)

// oneOf puts the expressions of a list instead of the columns of each of the first rows, which make way for one row.
func oneOf(lists [][]api.Expr) instead {
	return func(row, col int) (*api.Expr, int, api.Errno) {
		if row >= len(lists) {
			return nil, row - len(lists) + 1, api.OK
		}
		if col < 0 || col >= len(lists[row]) {
			return nil, 0, api.ErrColumn
		}
		return &lists[row][col], 0, api.OK
	}
}

// raised puts n more rows before all others.
func raised(n int) instead {
	return func(row, _ int) (*api.Expr, int, api.Errno) { return nil, row + n, api.OK }
}

// replacer makes copies of plans and expressions in which something stands instead of columns of rows outside. It keeps the first error.
type replacer struct {
	instead
	in  int // what is copied stands in the expressions of so many operators
	err api.Errno
}

func (r *replacer) plan(p api.Plan) api.Plan {
	p.Kinds = slices.Clone(p.Kinds)
	p.Rows = each(p.Rows, slices.Clone[api.Row])
	p.Cols, p.Aggs, p.Keys = slices.Clone(p.Cols), slices.Clone(p.Aggs), slices.Clone(p.Keys)
	p.Kids = each(p.Kids, r.plan)
	r.in++
	p.Conds, p.Exprs = each(p.Conds, r.expr), each(p.Exprs, r.expr)
	r.in--
	return p
}

func (r *replacer) expr(e api.Expr) api.Expr {
	if r.err != api.OK { // nothing that is copied now would be returned
		return api.Expr{}
	}
	if row, ok := (node{&e, r.in}).row(); ok {
		with, number, err := r.instead(row, e.N)
		if err != api.OK {
			r.err = err
			return api.Expr{}
		}
		if with != nil {
			copier := replacer{instead: raised(r.in)}
			return copier.expr(*with)
		}
		e.Up = number + r.in
	}
	e.Kids, e.Sub = each(e.Kids, r.expr), each(e.Sub, r.plan)
	return e
}
