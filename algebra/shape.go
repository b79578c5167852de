package algebra

import (
	"math"

	"jointer/api"
	"jointer/value"
)

// fields are those fields of a plan, beside Op and Kids, that have a meaning for its operator. In a text they stand in square brackets.
type fields uint8

const (
	noFields    fields = iota
	tableField         // Table
	rowFields          // Kinds, Rows
	condFields         // Conds
	exprFields         // Exprs
	groupFields        // Cols, Aggs
	keyFields          // Keys
	limitFields        // Keys, From, Count
)

// shape is what the formed plans of an operator have: so many kids, and fields.
type shape struct {
	kids int
	has  fields
}

var shapes = [...]shape{
	api.PlanRows:      {0, rowFields},
	api.PlanScan:      {0, tableField},
	api.PlanFilter:    {1, condFields},
	api.PlanProject:   {1, exprFields},
	api.PlanInner:     {2, condFields},
	api.PlanLeft:      {2, condFields},
	api.PlanFull:      {2, condFields},
	api.PlanSemi:      {2, condFields},
	api.PlanAnti:      {2, condFields},
	api.PlanNotIn:     {2, exprFields},
	api.PlanGroup:     {1, groupFields},
	api.PlanDistinct:  {1, noFields},
	api.PlanSort:      {1, keyFields},
	api.PlanLimit:     {1, limitFields},
	api.PlanUnion:     {2, noFields},
	api.PlanIntersect: {2, noFields},
	api.PlanExcept:    {2, noFields},
}

// isNumber returns whether n may be the number of something in a formed plan or expression.
func isNumber(n int) bool { return 0 <= n && n <= math.MaxInt32 }

// isPlan returns whether a plan is formed.
func isPlan(p *api.Plan) bool {
	if int(p.Op) >= len(shapes) {
		return false
	}
	s := shapes[p.Op]
	return s.fits(p) && len(p.Kids) == s.kids && (p.Op != api.PlanNotIn || len(p.Exprs) == 1) &&
		isNumber(p.Table) && isNumber(p.From) && isNumber(p.Count) &&
		!hasNoKind(p.Kinds) && all(p.Rows, rowTest(p.Kinds)) &&
		all(p.Cols, isColumn) && all(p.Aggs, isAgg) && all(p.Keys, isKey) &&
		all(p.Conds, isExpr) && all(p.Exprs, isExpr) && all(p.Kids, isPlan)
}

// fits returns whether the fields of a plan that have no meaning are zero or empty.
func (s shape) fits(p *api.Plan) bool {
	return (s.has == tableField || p.Table == 0) &&
		(s.has == rowFields || len(p.Kinds) == 0 && len(p.Rows) == 0) &&
		(s.has == condFields || len(p.Conds) == 0) &&
		(s.has == exprFields || len(p.Exprs) == 0) &&
		(s.has == groupFields || len(p.Cols) == 0 && len(p.Aggs) == 0) &&
		(s.has == keyFields || s.has == limitFields || len(p.Keys) == 0) &&
		(s.has == limitFields || p.From == 0 && p.Count == 0)
}

// rowTest returns the test of whether a row has values of these kinds.
func rowTest(kinds []api.Kind) func(*api.Row) bool {
	return func(row *api.Row) bool {
		if len(*row) != len(kinds) {
			return false
		}
		for i, v := range *row {
			if !value.Valid(v) || v.Kind != api.KindNull && v.Kind != kinds[i] {
				return false
			}
		}
		return true
	}
}

func isColumn(n *int) bool { return isNumber(*n) }

func isKey(k *api.Key) bool { return isNumber(k.Col) }

func isAgg(a *api.Agg) bool {
	if a.Fn == api.AggRows {
		return a.Col == 0 && !a.Distinct
	}
	return a.Fn <= api.AggAvg && isNumber(a.Col)
}

// isExpr returns whether an expression is formed.
func isExpr(e *api.Expr) bool {
	const many = -1
	kids, subs := many, 0
	switch e.Op {
	case api.OpConst, api.OpColumn:
		kids = 0
	case api.OpExists, api.OpScalar:
		kids, subs = 0, 1
	case api.OpIn:
		kids, subs = 1, 1
	case api.OpName, api.OpAgg:
		return false
	}
	return e.Op <= api.OpScalar && (kids == many || len(e.Kids) == kids) && len(e.Sub) == subs &&
		value.Valid(e.V) && (e.Op == api.OpConst || e.V == api.Value{}) &&
		isNumber(e.Up) && isNumber(e.N) && (e.Op == api.OpColumn || e.Up == 0 && e.N == 0) &&
		all(e.Kids, isExpr) && all(e.Sub, isPlan)
}
