package algebra

import (
	"iter"
	"slices"

	"jointer/api"
)

// Size returns the size of a plan, at most MaxNodes + 1.
func Size(p api.Plan) int { return size(nodes(&p)) }

// SizeExpr returns the size of an expression, at most MaxNodes + 1.
func SizeExpr(e api.Expr) int { return size(exprNodes(&e)) }

func size(nodes iter.Seq[node]) int {
	n := 0
	for range nodes {
		n++
		if n > api.MaxNodes {
			break
		}
	}
	return n
}

// Equal returns whether two plans are equal in all fields.
func Equal(p, q api.Plan) bool {
	return p.Op == q.Op && p.Table == q.Table && p.From == q.From && p.Count == q.Count &&
		slices.Equal(p.Kinds, q.Kinds) && slices.EqualFunc(p.Rows, q.Rows, slices.Equal[api.Row]) &&
		slices.Equal(p.Cols, q.Cols) && slices.Equal(p.Aggs, q.Aggs) && slices.Equal(p.Keys, q.Keys) &&
		slices.EqualFunc(p.Conds, q.Conds, EqualExpr) && slices.EqualFunc(p.Exprs, q.Exprs, EqualExpr) &&
		slices.EqualFunc(p.Kids, q.Kids, Equal)
}

// EqualExpr returns whether two expressions are equal in all fields.
func EqualExpr(e, f api.Expr) bool {
	return e.Op == f.Op && e.V == f.V && e.Up == f.Up && e.N == f.N &&
		slices.EqualFunc(e.Kids, f.Kids, EqualExpr) && slices.EqualFunc(e.Sub, f.Sub, Equal)
}

// Parts returns the parts of a plan.
func Parts(p api.Plan) []api.Plan {
	var list []api.Plan
	for part := range parts(&p) {
		list = append(list, copyPlan(*part))
	}
	return list
}

// At returns the part of a plan at a position.
func At(p api.Plan, position []int) (api.Plan, api.Errno) {
	part := find(&p, position)
	if part == nil {
		return api.Plan{}, api.ErrPlace
	}
	return copyPlan(*part), api.OK
}

// Put returns a plan with q in place of the part at a position.
func Put(p api.Plan, position []int, q api.Plan) (api.Plan, api.Errno) {
	if find(&p, position) == nil {
		return api.Plan{}, api.ErrPlace
	}
	made := copyPlan(p)
	*find(&made, position) = copyPlan(q)
	return made, api.OK
}

// Outer returns the kinds outside of the part of a plan at a position.
func Outer(s api.Scheme, p api.Plan, outer [][]api.Kind, position []int) ([][]api.Kind, api.Errno) {
	if e := Check(s, p, outer); e != api.OK {
		return nil, e
	}
	c := checker{tables: s}
	operator := &p
	for i, n := range position {
		part := find(operator, position[i:i+1])
		if part == nil {
			return nil, api.ErrPlace
		}
		if n >= len(operator.Kids) { // a subplan, which has the operator's row outside, too
			kids := each(operator.Kids, func(kid api.Plan) []api.Kind { return c.plan(&kid, outer) })
			outer = slices.Concat([][]api.Kind{rowOf(operator.Op, kids)}, outer)
		}
		operator = part
	}
	return each(outer, slices.Clone[[]api.Kind]), api.OK
}
