package algebra

import (
	"slices"

	"jointer/api"
	"jointer/calc"
)

// checker goes through formed plans and expressions, and keeps the first error. What it returns after an error has no meaning.
type checker struct {
	tables api.Scheme
	err    api.Errno
}

// must keeps an error, if it is the first one, unless something holds.
func (c *checker) must(holds bool, e api.Errno) {
	if !holds && c.err == api.OK {
		c.err = e
	}
}

// plan returns the columns of a plan.
func (c *checker) plan(p *api.Plan, outer [][]api.Kind) []api.Kind {
	kids := each(p.Kids, func(kid api.Plan) []api.Kind { return c.plan(&kid, outer) })
	row := rowOf(p.Op, kids)
	c.numbers(p, len(row))
	c.sums(p, row)
	kinds := c.exprs(p, slices.Concat([][]api.Kind{row}, outer))
	cols := c.columns(p, kids, row, kinds)
	c.must(len(cols) <= api.MaxWidth, api.ErrLimit)
	if c.err != api.OK { // too wide rows would grow in the nodes above
		return nil
	}
	return cols
}

// rowOf returns the kinds of an operator's row.
func rowOf(op api.PlanOp, kids [][]api.Kind) []api.Kind {
	if op == api.PlanNotIn {
		kids = kids[:1]
	}
	return slices.Concat(kids...)
}

// numbers checks the numbers of tables and of columns of a row that has so many.
func (c *checker) numbers(p *api.Plan, width int) {
	isTable := p.Op != api.PlanScan || p.Table < len(c.tables)
	isColumn := func(n *int) bool { return *n < width }
	isAgg := func(a *api.Agg) bool { return a.Fn == api.AggRows || a.Col < width }
	isKey := func(k *api.Key) bool { return k.Col < width }
	c.must(isTable && all(p.Cols, isColumn) && all(p.Aggs, isAgg) && all(p.Keys, isKey), api.ErrColumn)
}

// sums checks that what is summed are integers.
func (c *checker) sums(p *api.Plan, row []api.Kind) {
	for _, a := range p.Aggs {
		// With an error, the column need not exist.
		if c.err == api.OK && (a.Fn == api.AggSum || a.Fn == api.AggAvg) {
			c.common(row[a.Col], api.KindInt)
		}
	}
}

// exprs returns the kinds of the expressions that are no conditions.
func (c *checker) exprs(p *api.Plan, on [][]api.Kind) []api.Kind {
	for i := range p.Conds {
		c.common(c.expr(&p.Conds[i], on), api.KindBool)
	}
	return each(p.Exprs, func(e api.Expr) api.Kind { return c.expr(&e, on) })
}

// columns returns the columns of a plan, given those of its kids, its row, and the kinds of its Exprs.
func (c *checker) columns(p *api.Plan, kids [][]api.Kind, row, kinds []api.Kind) []api.Kind {
	if c.err != api.OK {
		return nil
	}
	switch p.Op {
	case api.PlanRows:
		return p.Kinds
	case api.PlanScan:
		return each(c.tables[p.Table].Cols, func(col api.Column) api.Kind { return col.Kind })
	case api.PlanProject:
		return kinds
	case api.PlanInner, api.PlanLeft, api.PlanFull:
		return row
	case api.PlanNotIn:
		c.common(kinds[0], c.only(kids[1]))
	case api.PlanGroup:
		return grouped(p, row)
	case api.PlanUnion, api.PlanIntersect, api.PlanExcept:
		return c.pairs(kids[0], kids[1])
	}
	return kids[0]
}

// grouped returns the columns of a PlanGroup.
func grouped(p *api.Plan, row []api.Kind) []api.Kind {
	ofAgg := func(a api.Agg) api.Kind {
		if a.Fn == api.AggMin || a.Fn == api.AggMax {
			return row[a.Col]
		}
		return api.KindInt
	}
	return append(each(p.Cols, func(n int) api.Kind { return row[n] }), each(p.Aggs, ofAgg)...)
}

// pairs returns the common kinds of two lists of columns.
func (c *checker) pairs(l, r []api.Kind) []api.Kind {
	c.must(len(l) == len(r), api.ErrColumn)
	var kinds []api.Kind
	for i := range min(len(l), len(r)) {
		kinds = append(kinds, c.common(l[i], r[i]))
	}
	return kinds
}

// common returns the common kind of two kinds, which must agree.
func (c *checker) common(a, b api.Kind) api.Kind {
	kind, e := calc.Kind(api.OpCoalesce, []api.Kind{a, b})
	c.must(e == api.OK, api.ErrKind)
	return kind
}

// only returns the kind of the only column that there must be.
func (c *checker) only(cols []api.Kind) api.Kind {
	c.must(len(cols) == 1, api.ErrColumn)
	if c.err != api.OK {
		return api.KindNull
	}
	return cols[0]
}

// expr returns the kind of an expression.
func (c *checker) expr(e *api.Expr, on [][]api.Kind) api.Kind {
	kids := each(e.Kids, func(kid api.Expr) api.Kind { return c.expr(&kid, on) })
	var cols []api.Kind
	if len(e.Sub) > 0 {
		cols = c.plan(&e.Sub[0], on)
	}
	switch e.Op {
	case api.OpConst:
		return e.V.Kind
	case api.OpColumn:
		return c.column(e, on)
	case api.OpExists:
		return api.KindBool
	case api.OpIn:
		c.common(kids[0], c.only(cols))
		return api.KindBool
	case api.OpScalar:
		return c.only(cols)
	}
	kind, err := calc.Kind(e.Op, kids)
	c.must(err != api.ErrArg, api.ErrForm) // a wrong number of kids
	c.must(err == api.OK, api.ErrKind)
	return kind
}

// column returns the kind of the column that an expression addresses.
func (c *checker) column(e *api.Expr, on [][]api.Kind) api.Kind {
	if e.Up >= len(on) || e.N >= len(on[e.Up]) {
		c.must(false, api.ErrColumn)
		return api.KindNull
	}
	return on[e.Up][e.N]
}
