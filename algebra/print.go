package algebra

import (
	"strconv"
	"strings"

	"jointer/api"
	"jointer/value"
)

// Print returns the text of a formed plan.
func Print(p api.Plan) (string, api.Errno) {
	if !isPlan(&p) {
		return "", api.ErrForm
	}
	var w writer
	w.plan(&p)
	return w.String(), api.OK
}

// PrintExpr returns the text of a formed expression.
func PrintExpr(e api.Expr) (string, api.Errno) {
	if !isExpr(&e) {
		return "", api.ErrForm
	}
	var w writer
	w.expr(&e)
	return w.String(), api.OK
}

// writer writes the texts of formed plans and expressions.
type writer struct{ strings.Builder }

// list writes the elements of a list, with something between each two.
func list[T any](w *writer, elements []T, between string, write func(*T)) {
	for i := range elements {
		if i > 0 {
			w.WriteString(between)
		}
		write(&elements[i])
	}
}

func (w *writer) plan(p *api.Plan) {
	s := shapes[p.Op]
	w.WriteString(planWords[p.Op])
	if s.has != noFields {
		w.WriteString("[")
		w.fields(s.has, p)
		w.WriteString("]")
	}
	if s.kids > 0 {
		w.WriteString("(")
		list(w, p.Kids, ", ", w.plan)
		w.WriteString(")")
	}
}

// fields writes what stands in the square brackets of a plan.
func (w *writer) fields(has fields, p *api.Plan) {
	switch has {
	case tableField:
		w.number(&p.Table)
	case rowFields:
		list(w, p.Kinds, " ", w.kind)
		w.WriteString(":")
		w.more(len(p.Rows))
		list(w, p.Rows, ", ", w.row)
	case condFields:
		list(w, p.Conds, ", ", w.expr)
	case exprFields:
		list(w, p.Exprs, ", ", w.expr)
	case groupFields:
		list(w, p.Cols, " ", w.number)
		w.WriteString(":")
		w.more(len(p.Aggs))
		list(w, p.Aggs, ", ", w.agg)
	case keyFields:
		list(w, p.Keys, ", ", w.key)
	case limitFields:
		list(w, p.Keys, ", ", w.key)
		w.WriteString("; ")
		w.number(&p.From)
		w.WriteString("; ")
		w.number(&p.Count)
	}
}

// more writes the blank before a list of n elements, which only a list with some has.
func (w *writer) more(n int) {
	if n > 0 {
		w.WriteString(" ")
	}
}

func (w *writer) number(n *int) { w.WriteString(strconv.Itoa(*n)) }

func (w *writer) kind(k *api.Kind) { w.WriteString(kindWords[*k]) }

func (w *writer) row(row *api.Row) {
	w.WriteString("(")
	list(w, *row, ", ", w.literal)
	w.WriteString(")")
}

func (w *writer) literal(v *api.Value) {
	s, _ := value.Print(*v) // the values of what is formed are valid
	w.WriteString(s)
}

func (w *writer) agg(a *api.Agg) {
	w.WriteString(aggWords[a.Fn])
	if a.Fn == api.AggRows {
		return
	}
	if a.Distinct {
		w.WriteString(" distinct")
	}
	w.WriteString(" ")
	w.number(&a.Col)
}

func (w *writer) key(k *api.Key) {
	w.number(&k.Col)
	if k.Desc {
		w.WriteString(" desc")
	}
}

func (w *writer) expr(e *api.Expr) {
	switch e.Op {
	case api.OpConst:
		w.literal(&e.V)
	case api.OpColumn:
		w.column(e)
	case api.OpExists, api.OpScalar:
		w.WriteString(exprWords[e.Op])
		w.sub(&e.Sub[0])
	case api.OpIn:
		w.WriteString("in(")
		w.expr(&e.Kids[0])
		w.WriteString(", ")
		w.sub(&e.Sub[0])
		w.WriteString(")")
	default:
		w.WriteString(exprWords[e.Op])
		w.WriteString("(")
		list(w, e.Kids, ", ", w.expr)
		w.WriteString(")")
	}
}

func (w *writer) column(e *api.Expr) {
	w.WriteString("c")
	w.number(&e.N)
	if e.Up != 0 {
		w.WriteString("^")
		w.number(&e.Up)
	}
}

func (w *writer) sub(p *api.Plan) {
	w.WriteString("{")
	w.plan(p)
	w.WriteString("}")
}
