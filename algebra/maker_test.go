package algebra_test

import (
	"fmt"
	"math"
	"math/rand"
	"reflect"
	"slices"
	"strings"

	"jointer/api"
)

// maker makes schemes, plans and expressions that are valid, and changes of them, most of which are not.
type maker struct {
	*rand.Rand
	s api.Scheme
}

func newMaker(seed int64) *maker { return &maker{Rand: rand.New(rand.NewSource(seed))} }

// pick returns an element of a list.
func pick[T any](m *maker, l ...T) T { return l[m.Intn(len(l))] }

// one returns whether something of which one in n is so is so.
func (m *maker) one(n int) bool { return m.Intn(n) == 0 }

// newScheme makes another scheme, and keeps it.
func (m *maker) newScheme() {
	m.s = nil
	for i := range pick(m, 0, 1, 2, 3, 16) {
		t := api.Table{Name: fmt.Sprint("t", i)}
		for j := range pick(m, 0, 1, 1, 2, 2, 3, 8) {
			t.Cols = append(t.Cols, api.Column{Name: fmt.Sprint("c", j), Kind: pick(m, api.KindInt, api.KindInt, api.KindText, api.KindBool)})
		}
		m.s = append(m.s, t)
	}
}

func (m *maker) kind() api.Kind {
	return pick(m, api.KindNull, api.KindInt, api.KindInt, api.KindInt, api.KindText, api.KindBool)
}

func (m *maker) kinds(n int) []api.Kind {
	var l []api.Kind
	for range n {
		l = append(l, m.kind())
	}
	return l
}

func (m *maker) outer() [][]api.Kind {
	var l [][]api.Kind
	for range m.Intn(3) {
		l = append(l, m.kinds(m.Intn(4)))
	}
	return l
}

// value makes null or a value of a kind.
func (m *maker) value(k api.Kind) api.Value {
	switch {
	case k == api.KindNull || m.one(5):
		return api.Value{}
	case k == api.KindInt:
		return api.Value{Kind: k, Int: pick[int64](m, 0, 1, -1, 10, math.MaxInt64, math.MinInt64)}
	case k == api.KindText:
		return api.Value{Kind: k, Text: pick(m, "", "a", "it's", "''", "', (c0)]", "NULL", "\x00\xff\n", strings.Repeat("é'", 33))}
	}
	return api.Value{Kind: k, Int: int64(m.Intn(2))}
}

// plan makes a valid plan, and returns its columns, too.
func (m *maker) plan(d int, outer [][]api.Kind) (api.Plan, []api.Kind) {
	if d <= 0 || m.one(8) {
		return m.leaf()
	}
	d--
	op := api.PlanFilter + api.PlanOp(m.Intn(15))
	l, cols := m.plan(d, outer)
	p := api.Plan{Op: op, Kids: []api.Plan{l}}
	switch op {
	case api.PlanFilter:
		p.Conds = m.conds(d, cols, outer)
	case api.PlanProject:
		kinds := m.kinds(m.Intn(4))
		p.Exprs = m.exprs(d, kinds, cols, outer)
		return p, kinds
	case api.PlanInner, api.PlanLeft, api.PlanFull, api.PlanSemi, api.PlanAnti:
		r, more := m.plan(d, outer)
		both := slices.Concat(cols, more)
		p.Kids, p.Conds = append(p.Kids, r), m.conds(d, both, outer)
		if op < api.PlanSemi {
			cols = both
		}
	case api.PlanNotIn:
		k := m.kind()
		p.Exprs = m.exprs(d, []api.Kind{k}, cols, outer)
		p.Kids = append(p.Kids, m.as(d, outer, m.agreeing(k)...))
	case api.PlanGroup:
		return m.group(p, cols)
	case api.PlanSort, api.PlanLimit:
		p.Keys = m.keys(len(cols))
		if op == api.PlanLimit {
			p.From, p.Count = pick(m, 0, 1, 7, greatest), pick(m, 0, 1, 50, greatest)
		}
	case api.PlanUnion, api.PlanIntersect, api.PlanExcept:
		others := m.agreeing(cols...)
		p.Kids = append(p.Kids, m.as(d, outer, others...))
		for i, k := range others {
			others[i] = max(k, cols[i])
		}
		cols = others
	}
	return p, cols
}

// agreeing makes kinds that agree with others.
func (m *maker) agreeing(kinds ...api.Kind) []api.Kind {
	made := slices.Clone(kinds)
	for i, k := range kinds {
		if m.one(6) {
			made[i] = api.KindNull
		} else if k == api.KindNull {
			made[i] = m.kind()
		}
	}
	return made
}

func (m *maker) leaf() (api.Plan, []api.Kind) {
	if len(m.s) > 0 && m.one(2) {
		n := m.Intn(len(m.s))
		var cols []api.Kind
		for _, c := range m.s[n].Cols {
			cols = append(cols, c.Kind)
		}
		return api.Plan{Op: api.PlanScan, Table: n}, cols
	}
	kinds := m.kinds(m.Intn(4))
	return m.constant(kinds), kinds
}

// constant makes a PlanRows.
func (m *maker) constant(kinds []api.Kind) api.Plan {
	p := api.Plan{Kinds: slices.Clone(kinds)}
	for range m.Intn(3) {
		var row api.Row
		for _, k := range kinds {
			row = append(row, m.value(k))
		}
		p.Rows = append(p.Rows, row)
	}
	return p
}

// as makes a plan with columns of these kinds.
func (m *maker) as(d int, outer [][]api.Kind, kinds ...api.Kind) api.Plan {
	if d <= 0 || m.one(3) {
		return m.constant(kinds)
	}
	kid, cols := m.plan(d-1, outer)
	return api.Plan{Op: api.PlanProject, Exprs: m.exprs(d-1, kinds, cols, outer), Kids: []api.Plan{kid}}
}

func (m *maker) keys(width int) []api.Key {
	var keys []api.Key
	for range m.Intn(3) {
		if width > 0 {
			keys = append(keys, api.Key{Col: m.Intn(width), Desc: m.one(2)})
		}
	}
	return keys
}

func (m *maker) group(p api.Plan, cols []api.Kind) (api.Plan, []api.Kind) {
	var made []api.Kind
	for _, k := range m.keys(len(cols)) {
		p.Cols = append(p.Cols, k.Col)
		made = append(made, cols[k.Col])
	}
	for range m.Intn(4) {
		a := api.Agg{Fn: api.AggFn(m.Intn(6))}
		kind := api.KindInt
		if a.Fn != api.AggRows {
			if len(cols) == 0 {
				continue
			}
			a.Col, a.Distinct = m.Intn(len(cols)), m.one(2)
			if (a.Fn == api.AggSum || a.Fn == api.AggAvg) && cols[a.Col] > api.KindInt {
				continue
			}
			if a.Fn == api.AggMin || a.Fn == api.AggMax {
				kind = cols[a.Col]
			}
		}
		p.Aggs = append(p.Aggs, a)
		made = append(made, kind)
	}
	return p, made
}

func (m *maker) conds(d int, row []api.Kind, outer [][]api.Kind) []api.Expr {
	kinds := make([]api.Kind, m.Intn(4))
	for i := range kinds {
		kinds[i] = pick(m, api.KindBool, api.KindBool, api.KindNull)
	}
	return m.exprs(d, kinds, row, outer)
}

func (m *maker) exprs(d int, kinds, row []api.Kind, outer [][]api.Kind) []api.Expr {
	on := append([][]api.Kind{row}, outer...)
	var l []api.Expr
	for _, k := range kinds {
		l = append(l, m.expr(d, on, k))
	}
	return l
}

// expr makes an expression of a kind.
func (m *maker) expr(d int, on [][]api.Kind, k api.Kind) api.Expr {
	if d <= 0 || m.one(5) {
		return m.leafExpr(on, k)
	}
	d--
	of := func(op api.Op, kinds ...api.Kind) api.Expr {
		e := api.Expr{Op: op}
		for _, k := range kinds {
			e.Kids = append(e.Kids, m.expr(d, on, pick(m, k, k, k, k, api.KindNull)))
		}
		return e
	}
	n := m.Intn(9)
	switch {
	case n < 2: // any kind
		return m.anyKind(d, on, k)
	case k == api.KindInt && n < 3:
		return of(pick(m, api.OpNeg), k)
	case k == api.KindInt && n < 4:
		return of(api.OpLength, api.KindText)
	case k == api.KindInt:
		return of(api.OpAdd+api.Op(m.Intn(5)), k, k)
	case k == api.KindText:
		return of(api.OpConcat, k, k)
	case k == api.KindNull:
		return m.leafExpr(on, k)
	}
	switch n {
	case 2, 3:
		other := m.kind()
		return of(api.OpEq+api.Op(m.Intn(7)), other, other)
	case 4:
		return of(api.OpLike, api.KindText, api.KindText)
	case 5:
		return of(pick(m, api.OpNot, api.OpIsTrue), api.KindBool)
	case 6:
		return of(api.OpIsNull, m.kind())
	case 7:
		return of(pick(m, api.OpAnd, api.OpOr), slices.Repeat([]api.Kind{api.KindBool}, m.Intn(4))...)
	}
	if m.one(2) {
		p, _ := m.plan(d, on)
		return api.Expr{Op: api.OpExists, Sub: []api.Plan{p}}
	}
	e := of(api.OpIn, m.kind())
	kind, _ := refExpr(m.s, e.Kids[0], on)
	e.Sub = []api.Plan{m.as(d, on, m.agreeing(kind)...)}
	return e
}

// anyKind makes an expression whose operator may have any kind.
func (m *maker) anyKind(d int, on [][]api.Kind, k api.Kind) api.Expr {
	e := api.Expr{Op: pick(m, api.OpCase, api.OpCoalesce, api.OpScalar)}
	if e.Op == api.OpScalar {
		e.Sub = []api.Plan{m.as(d, on, k)}
		return e
	}
	for i := range 1 + m.Intn(3) {
		if e.Op == api.OpCase {
			e.Kids = append(e.Kids, m.expr(d, on, pick(m, api.KindBool, api.KindNull)))
		}
		kind := k
		if i > 0 {
			kind = pick(m, k, api.KindNull)
		}
		e.Kids = append(e.Kids, m.expr(d, on, kind))
	}
	if e.Op == api.OpCase && m.one(2) {
		e.Kids = append(e.Kids, m.expr(d, on, k))
	}
	return e
}

// leafExpr makes a column of a kind, or a constant.
func (m *maker) leafExpr(on [][]api.Kind, k api.Kind) api.Expr {
	var fit []api.Expr
	for up, kinds := range on {
		for n, kind := range kinds {
			if kind == k {
				fit = append(fit, api.Expr{Op: api.OpColumn, Up: up, N: n})
			}
		}
	}
	if len(fit) > 0 && !m.one(4) {
		return pick(m, fit...)
	}
	v := m.value(k)
	for v.Kind != k {
		v = m.value(k)
	}
	return api.Expr{V: v}
}

// clone returns a copy in new memory.
func clone[T any](x T) T {
	return cloneValue(reflect.ValueOf(&x).Elem()).Interface().(T)
}

func cloneValue(v reflect.Value) reflect.Value {
	made := reflect.New(v.Type()).Elem()
	switch v.Kind() {
	case reflect.Slice:
		if v.Len() > 0 {
			made.Set(reflect.MakeSlice(v.Type(), v.Len(), v.Len()))
		}
		for i := range v.Len() {
			made.Index(i).Set(cloneValue(v.Index(i)))
		}
	case reflect.Struct:
		for i := range v.NumField() {
			made.Field(i).Set(cloneValue(v.Field(i)))
		}
	default:
		made.Set(v)
	}
	return made
}

// places are where the parts of a plan or an expression stand.
type places struct {
	plans   []*api.Plan
	exprs   []*api.Expr
	numbers []*int          // those that have a meaning
	all     []reflect.Value // all fields and elements
}

func (a *places) collect(v reflect.Value) {
	switch x := v.Addr().Interface().(type) {
	case *api.Plan:
		a.plans = append(a.plans, x)
		if x.Op == api.PlanScan {
			a.numbers = append(a.numbers, &x.Table)
		}
	case *api.Expr:
		a.exprs = append(a.exprs, x)
		if x.Op == api.OpColumn {
			a.numbers = append(a.numbers, &x.Up, &x.N)
		}
	case *api.Key:
		a.numbers = append(a.numbers, &x.Col)
	case *api.Agg:
		a.numbers = append(a.numbers, &x.Col)
	case *[]int:
		for i := range *x {
			a.numbers = append(a.numbers, &(*x)[i])
		}
	}
	switch v.Kind() {
	case reflect.Slice:
		a.all = append(a.all, v)
		for i := range v.Len() {
			a.collect(v.Index(i))
		}
	case reflect.Struct:
		for i := range v.NumField() {
			a.collect(v.Field(i))
		}
	default:
		a.all = append(a.all, v)
	}
}

// change changes a part of a plan or an expression: what x points to.
func (m *maker) change(x any) {
	var a places
	a.collect(reflect.ValueOf(x).Elem())
	switch m.Intn(12) {
	case 0, 1, 2, 3:
		if len(a.numbers) > 0 {
			n := pick(m, a.numbers...)
			*n = pick(m, 0, 1, 2, 3, *n+1, *n-1, 64, 1<<40, -1, greatest, greatest+1)
		}
	case 4, 5:
		if len(a.exprs) > 0 {
			*pick(m, a.exprs...) = clone(*pick(m, a.exprs...))
		}
	case 6:
		if len(a.exprs) > 0 {
			pick(m, a.exprs...).Op = api.Op(m.Intn(34))
		}
	case 7:
		if len(a.plans) > 0 {
			*pick(m, a.plans...) = clone(*pick(m, a.plans...))
		}
	case 8:
		if len(a.plans) > 0 {
			pick(m, a.plans...).Op = api.PlanOp(m.Intn(20))
		}
	case 9:
		if len(a.exprs) > 0 {
			m.changeAny(reflect.ValueOf(&pick(m, a.exprs...).Kids).Elem(), a)
		}
	default:
		m.changeAny(pick(m, a.all...), a)
	}
}

// changeAny changes any field or element.
func (m *maker) changeAny(v reflect.Value, a places) {
	switch v.Kind() {
	case reflect.Slice:
		m.changeList(v, a)
	case reflect.String:
		v.SetString(pick(m, "", "a", "it's", strings.Repeat("x", 100), strings.Repeat("x", 101)))
	case reflect.Bool:
		v.SetBool(!v.Bool())
	case reflect.Uint8:
		v.SetUint(uint64(pick(m, m.Intn(4), m.Intn(5), m.Intn(34), m.Intn(256))))
	default:
		v.SetInt(pick[int64](m, 0, 0, 1, 2, greatest, greatest+1, -1, math.MaxInt64, math.MinInt64))
	}
}

// changeList changes the length of a list, or sets another one in its place.
func (m *maker) changeList(v reflect.Value, a places) {
	n := v.Len()
	switch m.Intn(5) {
	case 0:
		v.Set(reflect.MakeSlice(v.Type(), 0, 1))
	case 1:
		if n > 0 {
			v.Set(v.Slice(0, n-1))
		}
	case 2:
		v.Set(reflect.Append(v, reflect.Zero(v.Type().Elem())))
	default:
		for range 20 {
			if other := pick(m, a.all...); other.Type() == v.Type() {
				v.Set(cloneValue(other))
				return
			}
		}
	}
}

// position makes a position of a plan, which mostly exists.
func (m *maker) position(p api.Plan) []int {
	var l []int
	for !m.one(4) {
		list := refParts(p)
		if len(list) == 0 || m.one(15) {
			if m.one(3) {
				l = append(l, pick(m, -1, len(list), math.MaxInt64, math.MinInt64))
			}
			return l
		}
		n := m.Intn(len(list))
		l, p = append(l, n), *list[n]
	}
	return l
}
