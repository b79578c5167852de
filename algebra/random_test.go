package algebra_test

import (
	"slices"
	"strings"
	"testing"

	"jointer/algebra"
	"jointer/api"
)

// P8.1

// TestRandomPlans looks at valid plans with their columns, and at changes of them.
func TestRandomPlans(t *testing.T) {
	m := newMaker(1)
	seen := map[api.Errno]int{}
	for i := range 1500 {
		if i%10 == 0 {
			m.newScheme()
		}
		outer := m.outer()
		p, want := m.plan(3, outer)
		if nodesOf(p) > 400 {
			continue
		}
		if cols, e := columns(t, m.s, p, outer); e != api.OK && len(want) <= 64 || e == api.OK && !slices.Equal(cols, want) {
			t.Fatalf("%s on %v has the columns %v, %v; want %v", show(p), outer, cols, e, want)
		}
		for range 6 {
			q := clone(p)
			for range 1 + m.Intn(2) {
				m.change(&q)
			}
			_, e := columns(t, m.s, q, outer)
			seen[e]++
		}
		for range 2 {
			outerOf(t, m.s, p, outer, m.position(p))
		}
		if t.Failed() {
			return
		}
	}
	for _, e := range []api.Errno{api.OK, api.ErrForm, api.ErrColumn, api.ErrKind} {
		if seen[e] < 300 {
			t.Errorf("%v came too seldom: %v", e, seen)
		}
	}
}

func TestRandomKinds(t *testing.T) {
	m := newMaker(2)
	seen := map[api.Errno]int{}
	for i := range 1500 {
		if i%10 == 0 {
			m.newScheme()
		}
		on := append(m.outer(), m.kinds(2))
		want := m.kind()
		x := m.expr(4, on, want)
		if nodesOf(x) > 400 {
			continue
		}
		if k, e := kindOf(t, m.s, x, on); k != want || e != api.OK {
			t.Fatalf("%s on %v is of the kind %v, %v; want %v", refExprText(x), on, k, e, want)
		}
		for range 6 {
			y := clone(x)
			for range 1 + m.Intn(2) {
				m.change(&y)
			}
			_, e := kindOf(t, m.s, y, on)
			seen[e]++
		}
		if t.Failed() {
			return
		}
	}
	for _, e := range []api.Errno{api.OK, api.ErrForm, api.ErrColumn, api.ErrKind} {
		if seen[e] < 300 {
			t.Errorf("%v came too seldom: %v", e, seen)
		}
	}
}

// P8.2

// changed returns a plan with changes, most of which make one that is not formed.
func (m *maker) changed(d, most int) api.Plan {
	p, _ := m.plan(d, m.outer())
	for range m.Intn(most) {
		m.change(&p)
	}
	return p
}

func TestRandomStructure(t *testing.T) {
	m := newMaker(3)
	for i := range 1000 {
		if i%10 == 0 {
			m.newScheme()
		}
		p := m.changed(3, 6)
		if nodesOf(p) > 1000 {
			continue
		}
		q := clone(p)
		m.change(&q)
		isEqual(t, p, q)
		size(t, p)
		parts(t, p)
		for range 3 {
			position := m.position(p)
			at(t, p, position)
			put(t, p, position, q)
		}
		for _, x := range slices.Concat(p.Conds, p.Exprs) {
			sizeExpr(t, x)
			y := clone(x)
			m.change(&y)
			isEqualExpr(t, x, y)
		}
		if t.Failed() {
			return
		}
	}
}

// P8.3

// lists makes lists of expressions for rows that have up to n columns.
func (m *maker) lists(n int) [][]api.Expr {
	var l [][]api.Expr
	for range m.Intn(4) {
		var row []api.Expr
		for range max(0, n-m.Intn(3)) {
			x := m.expr(2, append(m.outer(), m.kinds(3)), m.kind())
			if m.one(3) {
				m.change(&x)
			}
			row = append(row, x)
		}
		l = append(l, row)
	}
	return l
}

func TestRandomReplacing(t *testing.T) {
	m := newMaker(4)
	seen := map[api.Errno]int{}
	for i := range 1500 {
		if i%10 == 0 {
			m.newScheme()
		}
		on := append(m.outer(), m.kinds(3))
		x := m.expr(3, on, m.kind())
		p, _ := m.plan(3, on)
		for range m.Intn(3) {
			m.change(&x)
			m.change(&p)
		}
		if nodesOf(x)+nodesOf(p) > 600 {
			continue
		}
		lists := m.lists(3)
		_, e := replace(t, x, lists)
		_, err := replacePlan(t, p, lists)
		seen[e]++
		seen[err]++
		_, e = lower(t, p)
		seen[10+e]++
		for up := range 4 {
			uses(t, x, up-1)
			uses(t, p, up-1)
		}
		if t.Failed() {
			return
		}
	}
	for _, e := range []api.Errno{api.OK, api.ErrColumn, 10 + api.OK, 10 + api.ErrColumn} {
		if seen[e] < 300 {
			t.Errorf("%d came too seldom: %v", e, seen)
		}
	}
}

// P8.4

func TestRandomTexts(t *testing.T) {
	m := newMaker(6)
	seen := map[api.Errno]int{}
	for i := range 1500 {
		if i%10 == 0 {
			m.newScheme()
		}
		p, _ := m.plan(4, m.outer())
		if _, e := printed(t, p); e != api.OK {
			t.Fatalf("%+v is not formed", p)
		}
		for range 3 {
			q := clone(p)
			m.change(&q)
			_, e := printed(t, q)
			seen[e]++
			for _, x := range slices.Concat(q.Conds, q.Exprs) {
				printedExpr(t, x)
			}
		}
		text := refText(p)
		for range 5 {
			a, b := m.Intn(len(text)), m.Intn(len(text))
			c := min(a+m.Intn(8), len(text))
			_, e := readText(t, text[:b]+text[a:c]+text[b:])
			seen[e]++
			_, e = readText(t, text[:a]+text[c:])
			seen[e]++
		}
		if t.Failed() {
			return
		}
	}
	for _, e := range []api.Errno{api.OK, api.ErrForm, api.ErrText} {
		if seen[e] < 500 {
			t.Errorf("%v came too seldom: %v", e, seen)
		}
	}
}

// P1: all functions for as many levels as are promised.

func TestDeep(t *testing.T) {
	const levels = 1 << 16
	text := "filter[" + strings.Repeat("not(", levels-3) + "c0^1" + strings.Repeat(")", levels-3) + "](scan[0])"
	subs := strings.Repeat("filter[exists{", levels/2-1) + "filter[c0^1](scan[0])" + strings.Repeat("}](scan[0])", levels/2-1)
	kids := strings.Repeat("distinct(", levels-3) + "filter[c0^1](scan[0])" + strings.Repeat(")", levels-3)
	for _, text := range []string{text, subs, kids} {
		p, e := algebra.Read(text)
		if e != api.OK {
			t.Fatalf("Read is %v", e)
		}
		if s, e := algebra.Print(p); s != text || e != api.OK {
			t.Errorf("Print is another text, %v", e)
		}
		if e := algebra.Check(plain(), p, nil); e != api.ErrLimit || algebra.Size(p) != 401 {
			t.Errorf("Check is %v", e)
		}
		want := 1
		if text == subs {
			want = 0
		}
		if n := len(algebra.UsedPlan(p, 0)); n != want || algebra.Depth(p) != want {
			t.Errorf("%d columns, depth %d", n, algebra.Depth(p))
		}
		position := make([]int, levels-2)
		if text == subs {
			for i := range position {
				position[i] = 1
			}
			position = position[:levels/2-1]
		}
		if text[7] == 'n' {
			position = nil
		}
		q, e := algebra.At(p, position)
		if e != api.OK || q.Op == api.PlanDistinct || q.Op == api.PlanFilter && len(q.Conds) != 1 || len(algebra.Parts(p)) == 0 {
			t.Errorf("At is %v", e)
		}
		if got, e := algebra.Put(p, position, q); e != api.OK || !algebra.Equal(got, p) {
			t.Errorf("Put is %v", e)
		}
		raised, e := algebra.ReplacePlan(p, nil)
		back, err := algebra.Lower(raised)
		if e != api.OK || err != api.OK || algebra.Equal(raised, p) != (want == 0) || !algebra.Equal(back, p) {
			t.Errorf("Replace and Lower: %v, %v", e, err)
		}
	}
}
