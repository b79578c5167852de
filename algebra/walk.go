package algebra

import (
	"iter"

	"jointer/api"
)

// node is a node to which a walk comes: of an expression, or (expr is nil) of a plan. It stands in the expressions of so many operators, one within the other, that the walk has come by.
type node struct {
	expr *api.Expr
	in   int
}

// nodes goes through the nodes of a plan, of its expressions and of their subplans.
func nodes(p *api.Plan) iter.Seq[node] {
	return func(yield func(node) bool) { walk{yield: yield}.plan(p) }
}

// exprNodes goes through the nodes of an expression and of its subplans.
func exprNodes(e *api.Expr) iter.Seq[node] {
	return func(yield func(node) bool) { walk{yield: yield}.expr(e) }
}

// walk is a walk within the expressions of so many operators. Its methods return whether it is to go on.
type walk struct {
	yield func(node) bool
	in    int
}

func (w walk) plan(p *api.Plan) bool {
	inner := walk{w.yield, w.in + 1}
	return w.yield(node{nil, w.in}) && all(p.Kids, w.plan) && all(p.Conds, inner.expr) && all(p.Exprs, inner.expr)
}

func (w walk) expr(e *api.Expr) bool {
	return w.yield(node{e, w.in}) && all(e.Sub, w.plan) && all(e.Kids, w.expr)
}

// rows goes through the columns of rows outside that nodes address: the number of the row, and that of its column.
func rows(nodes iter.Seq[node]) iter.Seq2[int, int] {
	return func(yield func(int, int) bool) {
		for n := range nodes {
			if row, ok := n.row(); ok && !yield(row, n.expr.N) {
				return
			}
		}
	}
}

// row returns the number of the row outside that a node addresses, if it addresses one.
func (n node) row() (int, bool) {
	if n.expr == nil || n.expr.Op != api.OpColumn || !isNumber(n.expr.Up) || n.expr.Up < n.in {
		return 0, false
	}
	return n.expr.Up - n.in, true
}

// parts goes through the parts of a plan.
func parts(p *api.Plan) iter.Seq[*api.Plan] {
	return func(yield func(*api.Plan) bool) {
		s := subs(yield)
		_ = all(p.Kids, yield) && all(p.Conds, s.expr) && all(p.Exprs, s.expr)
	}
}

// subs is told the subplans of expressions that are not within other subplans.
type subs func(*api.Plan) bool

func (s subs) expr(e *api.Expr) bool { return all(e.Sub, s) && all(e.Kids, s.expr) }

// find returns the part of a plan at a position, or nil.
func find(p *api.Plan, position []int) *api.Plan {
steps:
	for _, n := range position {
		for part := range parts(p) {
			if n == 0 {
				p = part
				continue steps
			}
			n--
		}
		return nil
	}
	return p
}
