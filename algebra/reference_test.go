package algebra_test

import (
	"fmt"
	"reflect"
	"regexp"
	"slices"
	"strings"

	"jointer/api"
	"jointer/calc"
	"jointer/scheme"
	"jointer/value"
)

// This file says the sentences of the chapter literally, one after the other.

const greatest = 1<<31 - 1

// planFields and exprFields have the fields that have a meaning for an operator, as package api lists them; planKids the numbers of kids.
var (
	planFields = map[api.PlanOp]string{
		api.PlanRows: "Kinds Rows", api.PlanScan: "Table", api.PlanFilter: "Conds", api.PlanProject: "Exprs",
		api.PlanInner: "Conds", api.PlanLeft: "Conds", api.PlanFull: "Conds", api.PlanSemi: "Conds", api.PlanAnti: "Conds", api.PlanNotIn: "Exprs",
		api.PlanGroup: "Cols Aggs", api.PlanDistinct: "", api.PlanSort: "Keys", api.PlanLimit: "Keys From Count",
		api.PlanUnion: "", api.PlanIntersect: "", api.PlanExcept: "",
	}
	exprFields = map[api.Op]string{api.OpConst: "V", api.OpColumn: "Up N", api.OpExists: "Sub", api.OpScalar: "Sub", api.OpIn: "Kids Sub"}
	planKids   = [][]api.PlanOp{
		{api.PlanRows, api.PlanScan},
		{api.PlanFilter, api.PlanProject, api.PlanGroup, api.PlanDistinct, api.PlanSort, api.PlanLimit},
		{api.PlanInner, api.PlanLeft, api.PlanFull, api.PlanSemi, api.PlanAnti, api.PlanNotIn, api.PlanUnion, api.PlanIntersect, api.PlanExcept},
	}
)

// onlyHas returns whether all fields of a struct but Op and those that are listed are zero or empty.
func onlyHas(x any, fields string) bool {
	v := reflect.ValueOf(x)
	for i := range v.NumField() {
		f, name := v.Field(i), v.Type().Field(i).Name
		if name == "Op" || slices.Contains(strings.Fields(fields), name) || f.IsZero() || f.Kind() == reflect.Slice && f.Len() == 0 {
			continue
		}
		return false
	}
	return true
}

func every[T any](l []T, is func(T) bool) bool {
	return !slices.ContainsFunc(l, func(x T) bool { return !is(x) })
}

func refNumber(n int) bool { return n >= 0 && n <= greatest }

func refFormedExpr(e api.Expr) bool {
	fields, special := exprFields[e.Op]
	if !special {
		fields = "Kids"
	}
	subs := map[api.Op]int{api.OpExists: 1, api.OpIn: 1, api.OpScalar: 1}[e.Op]
	return e.Op != api.OpName && e.Op != api.OpAgg && e.Op <= api.OpScalar && onlyHas(e, fields) &&
		value.Valid(e.V) && refNumber(e.Up) && refNumber(e.N) && len(e.Sub) == subs && (e.Op != api.OpIn || len(e.Kids) == 1) &&
		every(e.Kids, refFormedExpr) && every(e.Sub, refFormed)
}

func refFormed(p api.Plan) bool {
	fields, exists := planFields[p.Op]
	if !exists || !onlyHas(p, fields+" Kids") || len(p.Kids) > 2 || !slices.Contains(planKids[len(p.Kids)], p.Op) {
		return false
	}
	isKind := func(k api.Kind) bool { return k <= api.KindBool }
	isRow := func(r api.Row) bool {
		for i, v := range r {
			if !value.Valid(v) || i < len(p.Kinds) && v.Kind != api.KindNull && v.Kind != p.Kinds[i] {
				return false
			}
		}
		return len(r) == len(p.Kinds)
	}
	isAgg := func(a api.Agg) bool {
		return a.Fn <= api.AggAvg && refNumber(a.Col) && (a.Fn != api.AggRows || a == api.Agg{})
	}
	isKey := func(k api.Key) bool { return refNumber(k.Col) }
	return every([]int{p.Table, p.From, p.Count}, refNumber) && every(p.Cols, refNumber) && every(p.Aggs, isAgg) && every(p.Keys, isKey) &&
		(p.Op != api.PlanNotIn || len(p.Exprs) == 1) && every(p.Kinds, isKind) && every(p.Rows, isRow) &&
		every(p.Kids, refFormed) && every(p.Conds, refFormedExpr) && every(p.Exprs, refFormedExpr)
}

// refNodes returns the number of plans and expressions in something.
func refNodes(v reflect.Value) int {
	n := 0
	switch v.Kind() {
	case reflect.Slice:
		for i := range v.Len() {
			n += refNodes(v.Index(i))
		}
	case reflect.Struct:
		switch v.Interface().(type) {
		case api.Plan, api.Expr:
			n = 1
		}
		for i := range v.NumField() {
			n += refNodes(v.Field(i))
		}
	}
	return n
}

func nodesOf(x any) int { return refNodes(reflect.ValueOf(x)) }

func agree(a, b api.Kind) bool { return a == b || a == api.KindNull || b == api.KindNull }

// refGiven returns the errors that come before those of the nodes.
func refGiven(s api.Scheme, kinds [][]api.Kind, x any, formed bool) api.Errno {
	for _, l := range kinds {
		for _, k := range l {
			if k > 3 {
				return api.ErrArg
			}
		}
	}
	switch {
	case !scheme.Valid(s):
		return api.ErrArg
	case nodesOf(x) > 400 || len(kinds) > 400:
		return api.ErrLimit
	case !formed:
		return api.ErrForm
	}
	return api.OK
}

func refColumns(s api.Scheme, p api.Plan, outer [][]api.Kind) ([]api.Kind, api.Errno) {
	if e := refGiven(s, outer, p, refFormed(p)); e != api.OK {
		return nil, e
	}
	return refPlan(s, p, outer)
}

func refKind(s api.Scheme, x api.Expr, kinds [][]api.Kind) (api.Kind, api.Errno) {
	if e := refGiven(s, kinds, x, refFormedExpr(x)); e != api.OK {
		return 0, e
	}
	return refExpr(s, x, kinds)
}

func refExpr(s api.Scheme, x api.Expr, on [][]api.Kind) (api.Kind, api.Errno) {
	var kids, cols []api.Kind
	for _, kid := range x.Kids {
		k, e := refExpr(s, kid, on)
		if e != api.OK {
			return 0, e
		}
		kids = append(kids, k)
	}
	for _, sub := range x.Sub {
		var e api.Errno
		if cols, e = refPlan(s, sub, on); e != api.OK {
			return 0, e
		}
	}
	switch x.Op {
	case api.OpConst:
		return x.V.Kind, api.OK
	case api.OpColumn:
		if x.Up >= len(on) || x.N >= len(on[x.Up]) {
			return 0, api.ErrColumn
		}
		return on[x.Up][x.N], api.OK
	case api.OpExists:
		return api.KindBool, api.OK
	case api.OpIn, api.OpScalar:
		if len(cols) != 1 {
			return 0, api.ErrColumn
		}
		if x.Op == api.OpScalar {
			return cols[0], api.OK
		}
		if !agree(kids[0], cols[0]) {
			return 0, api.ErrKind
		}
		return api.KindBool, api.OK
	}
	k, e := calc.Kind(x.Op, kids)
	return k, map[api.Errno]api.Errno{api.OK: api.OK, api.ErrArg: api.ErrForm, api.ErrKind: api.ErrKind}[e]
}

// refPlan has the numbers of the chapter.
func refPlan(s api.Scheme, p api.Plan, outer [][]api.Kind) ([]api.Kind, api.Errno) {
	var kids [][]api.Kind
	for _, kid := range p.Kids { // (1)
		cols, e := refPlan(s, kid, outer)
		if e != api.OK {
			return nil, e
		}
		kids = append(kids, cols)
	}
	if p.Op == api.PlanScan && p.Table >= len(s) { // (2)
		return nil, api.ErrColumn
	}
	if len(kids) == 1 {
		if e := refNumbers(p, kids[0]); e != api.OK { // (3), (4)
			return nil, e
		}
	}
	var row []api.Kind
	for i, cols := range kids {
		if i == 0 || p.Op != api.PlanNotIn {
			row = append(row, cols...)
		}
	}
	on := append([][]api.Kind{row}, outer...)
	for _, c := range p.Conds { // (5)
		k, e := refExpr(s, c, on)
		if e != api.OK {
			return nil, e
		}
		if k != api.KindBool && k != api.KindNull {
			return nil, api.ErrKind
		}
	}
	var exprs []api.Kind
	for _, x := range p.Exprs {
		k, e := refExpr(s, x, on)
		if e != api.OK {
			return nil, e
		}
		exprs = append(exprs, k)
	}
	cols, e := refTable(s, p, kids, exprs)
	if e == api.OK && len(cols) > 64 { // (8)
		return nil, api.ErrLimit
	}
	return cols, e
}

func refNumbers(p api.Plan, kid []api.Kind) api.Errno {
	all := slices.Clone(p.Cols)
	for _, a := range p.Aggs {
		if a.Fn != api.AggRows {
			all = append(all, a.Col)
		}
	}
	for _, k := range p.Keys {
		all = append(all, k.Col)
	}
	if slices.ContainsFunc(all, func(n int) bool { return n >= len(kid) }) {
		return api.ErrColumn
	}
	for _, a := range p.Aggs {
		if (a.Fn == api.AggSum || a.Fn == api.AggAvg) && !agree(kid[a.Col], api.KindInt) {
			return api.ErrKind
		}
	}
	return api.OK
}

// refTable returns the columns by the chapter's table, with (6) and (7).
func refTable(s api.Scheme, p api.Plan, kids [][]api.Kind, exprs []api.Kind) (cols []api.Kind, e api.Errno) {
	switch p.Op {
	case api.PlanRows:
		return p.Kinds, api.OK
	case api.PlanScan:
		for _, c := range s[p.Table].Cols {
			cols = append(cols, c.Kind)
		}
		return cols, api.OK
	case api.PlanFilter, api.PlanDistinct, api.PlanSort, api.PlanLimit, api.PlanSemi, api.PlanAnti:
		return kids[0], api.OK
	case api.PlanProject:
		return exprs, api.OK
	case api.PlanInner, api.PlanLeft, api.PlanFull:
		return append(slices.Clone(kids[0]), kids[1]...), api.OK
	case api.PlanNotIn:
		if len(kids[1]) != 1 {
			return nil, api.ErrColumn
		}
		if !agree(exprs[0], kids[1][0]) {
			return nil, api.ErrKind
		}
		return kids[0], api.OK
	case api.PlanGroup:
		for _, n := range p.Cols {
			cols = append(cols, kids[0][n])
		}
		for _, a := range p.Aggs {
			switch a.Fn {
			case api.AggRows, api.AggCount, api.AggSum, api.AggAvg:
				cols = append(cols, api.KindInt)
			default:
				cols = append(cols, kids[0][a.Col])
			}
		}
		return cols, api.OK
	}
	if len(kids[0]) != len(kids[1]) {
		return nil, api.ErrColumn
	}
	for i, k := range kids[0] {
		if !agree(k, kids[1][i]) {
			return nil, api.ErrKind
		}
		cols = append(cols, max(k, kids[1][i])) // KindNull is the least
	}
	return cols, api.OK
}

// refOuter returns the kinds outside of the part at a position of a valid plan.
func refOuter(s api.Scheme, p api.Plan, outer [][]api.Kind, position []int) ([][]api.Kind, api.Errno) {
	if len(position) == 0 {
		return outer, api.OK
	}
	n, list := position[0], refParts(p)
	if n < 0 || n >= len(list) {
		return nil, api.ErrPlace
	}
	if n >= len(p.Kids) {
		var row []api.Kind
		for i, kid := range p.Kids {
			cols, _ := refPlan(s, kid, outer)
			if i == 0 || p.Op != api.PlanNotIn {
				row = append(row, cols...)
			}
		}
		outer = append([][]api.Kind{row}, outer...)
	}
	return refOuter(s, *list[n], outer, position[1:])
}

// refParts returns where the parts of a plan stand.
func refParts(p api.Plan) []*api.Plan {
	var list []*api.Plan
	var subs func(l []api.Expr)
	subs = func(l []api.Expr) {
		for i := range l {
			for j := range l[i].Sub {
				list = append(list, &l[i].Sub[j])
			}
			subs(l[i].Kids)
		}
	}
	for i := range p.Kids {
		list = append(list, &p.Kids[i])
	}
	subs(p.Conds)
	subs(p.Exprs)
	return list
}

// refAt returns where the part at a position stands, or nil.
func refAt(p *api.Plan, position []int) *api.Plan {
	for _, n := range position {
		list := refParts(*p)
		if n < 0 || n >= len(list) {
			return nil
		}
		p = list[n]
	}
	return p
}

// refWords has the words of expressions from OpNeg on, and of plans.
var (
	refWords     = strings.Split("neg, add, sub, mul, div, mod, concat, length, eq, ne, lt, le, gt, ge, same, like, isnull, istrue, not, and, or, case, coalesce, exists, in, scalar", ", ")
	refPlanWords = strings.Fields("rows scan filter project inner left full semi anti notin group distinct sort limit union intersect except")
	refAggWords  = strings.Fields("rows count sum min max avg")
	refKindWords = strings.Fields("null int text bool")
)

// joined returns the texts of the elements of a list, with something between each two.
func joined[T any](l []T, between string, text func(T) string) string {
	var texts []string
	for _, x := range l {
		texts = append(texts, text(x))
	}
	return strings.Join(texts, between)
}

func refLiteral(v api.Value) string {
	s, _ := value.Print(v)
	return s
}

// refExprText returns the text of a formed expression.
func refExprText(e api.Expr) string {
	switch {
	case e.Op == api.OpConst:
		return refLiteral(e.V)
	case e.Op == api.OpColumn && e.Up == 0:
		return fmt.Sprintf("c%d", e.N)
	case e.Op == api.OpColumn:
		return fmt.Sprintf("c%d^%d", e.N, e.Up)
	}
	word := refWords[e.Op-api.OpNeg]
	switch e.Op {
	case api.OpExists, api.OpScalar:
		return word + "{" + refText(e.Sub[0]) + "}"
	case api.OpIn:
		return "in(" + refExprText(e.Kids[0]) + ", {" + refText(e.Sub[0]) + "})"
	}
	return word + "(" + joined(e.Kids, ", ", refExprText) + ")"
}

// refText returns the text of a formed plan.
func refText(p api.Plan) string {
	text := refPlanWords[p.Op]
	blank := func(s string) string {
		if s != "" {
			return " " + s
		}
		return ""
	}
	key := func(k api.Key) string { return fmt.Sprint(k.Col) + map[bool]string{true: " desc"}[k.Desc] }
	keys := joined(p.Keys, ", ", key)
	switch p.Op {
	case api.PlanRows:
		row := func(r api.Row) string { return "(" + joined(r, ", ", refLiteral) + ")" }
		text += "[" + joined(p.Kinds, " ", func(k api.Kind) string { return refKindWords[k] }) + ":" + blank(joined(p.Rows, ", ", row)) + "]"
	case api.PlanScan:
		text += fmt.Sprintf("[%d]", p.Table)
	case api.PlanProject, api.PlanNotIn:
		text += "[" + joined(p.Exprs, ", ", refExprText) + "]"
	case api.PlanGroup:
		agg := func(a api.Agg) string {
			if a.Fn == api.AggRows {
				return "rows"
			}
			return refAggWords[a.Fn] + map[bool]string{true: " distinct"}[a.Distinct] + fmt.Sprintf(" %d", a.Col)
		}
		text += "[" + joined(p.Cols, " ", func(n int) string { return fmt.Sprint(n) }) + ":" + blank(joined(p.Aggs, ", ", agg)) + "]"
	case api.PlanSort:
		text += "[" + keys + "]"
	case api.PlanLimit:
		text += fmt.Sprintf("[%s; %d; %d]", keys, p.From, p.Count)
	case api.PlanFilter, api.PlanInner, api.PlanLeft, api.PlanFull, api.PlanSemi, api.PlanAnti:
		text += "[" + joined(p.Conds, ", ", refExprText) + "]"
	}
	if len(p.Kids) > 0 {
		text += "(" + joined(p.Kids, ", ", refText) + ")"
	}
	return text
}

// tokens of texts: blanks do not count.
var refToken = regexp.MustCompile(`(?s)[a-z]+|[A-Z]+|-?[0-9]+|'(?:[^']|'')*'|.`)

// refRead returns the formed plan whose text this is: it reads far more than texts, but what it has read must have this text.
func refRead(text string) (p api.Plan, ok bool) {
	defer func() {
		if recover() != nil {
			p, ok = api.Plan{}, false
		}
	}()
	r := loose{}
	for _, s := range refToken.FindAllString(text, -1) {
		if s != " " {
			r.tokens = append(r.tokens, s)
		}
	}
	p = r.plan()
	if !refFormed(p) || refText(p) != text {
		return api.Plan{}, false
	}
	return p, true
}

// loose reads tokens, and panics where they are at an end.
type loose struct{ tokens []string }

func (r *loose) next() string {
	s := r.tokens[0]
	r.tokens = r.tokens[1:]
	return s
}

func (r *loose) has(s string) bool {
	if len(r.tokens) > 0 && r.tokens[0] == s {
		r.next()
		return true
	}
	return false
}

// list reads up to one of the tokens of a list of closing marks.
func looseList[T any](r *loose, end string, one func() T) []T {
	var l []T
	for !r.has(end) {
		l = append(l, one())
		r.has(",")
	}
	return l
}

func (r *loose) number() int {
	var n int
	if _, e := fmt.Sscan(r.next(), &n); e != nil {
		panic(e)
	}
	return n
}

func (r *loose) literal() api.Value {
	v, e := value.Read(r.next())
	if e != api.OK {
		panic(e)
	}
	return v
}

func (r *loose) key() api.Key {
	n := r.number()
	return api.Key{Col: n, Desc: r.has("desc")}
}

func (r *loose) agg() api.Agg {
	a := api.Agg{Fn: api.AggFn(slices.Index(refAggWords, r.next()))}
	if a.Fn != api.AggRows {
		a.Distinct = r.has("distinct")
		a.Col = r.number()
	}
	return a
}

func (r *loose) plan() api.Plan {
	p := api.Plan{Op: api.PlanOp(slices.Index(refPlanWords, r.next()))}
	if r.has("[") {
		switch p.Op {
		case api.PlanRows:
			p.Kinds = looseList(r, ":", func() api.Kind { return api.Kind(slices.Index(refKindWords, r.next())) })
			p.Rows = looseList(r, "]", func() api.Row {
				r.has("(")
				return looseList(r, ")", r.literal)
			})
		case api.PlanScan:
			p.Table = r.number()
			r.has("]")
		case api.PlanProject, api.PlanNotIn:
			p.Exprs = looseList(r, "]", r.expr)
		case api.PlanGroup:
			p.Cols = looseList(r, ":", r.number)
			p.Aggs = looseList(r, "]", r.agg)
		case api.PlanSort:
			p.Keys = looseList(r, "]", r.key)
		case api.PlanLimit:
			p.Keys = looseList(r, ";", r.key)
			p.From = r.number()
			r.has(";")
			p.Count = r.number()
			r.has("]")
		default:
			p.Conds = looseList(r, "]", r.expr)
		}
	}
	if r.has("(") {
		p.Kids = looseList(r, ")", r.plan)
	}
	return p
}

func (r *loose) expr() api.Expr {
	n := slices.Index(refWords, r.tokens[0])
	switch {
	case r.has("c"):
		e := api.Expr{Op: api.OpColumn, N: r.number()}
		if r.has("^") {
			e.Up = r.number()
		}
		return e
	case n < 0:
		return api.Expr{V: r.literal()}
	}
	r.next()
	e := api.Expr{Op: api.OpNeg + api.Op(n)}
	switch e.Op {
	case api.OpExists, api.OpScalar:
		e.Sub = r.sub()
	case api.OpIn:
		r.has("(")
		e.Kids = []api.Expr{r.expr()}
		r.has(",")
		e.Sub = r.sub()
		r.has(")")
	default:
		r.has("(")
		e.Kids = looseList(r, ")", r.expr)
	}
	return e
}

func (r *loose) sub() []api.Plan {
	r.has("{")
	p := r.plan()
	r.has("}")
	return []api.Plan{p}
}
