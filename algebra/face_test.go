package algebra_test

import (
	"fmt"
	"testing"

	"jointer/algebra"
	"jointer/api"
)

// The functions of this file call those of the package with lists that have spare capacity, hold what these return against the reference, and return it.

// plain returns a scheme of a table 0 with the columns (int, text), a table 1 with the column (int), and a table 2 without columns.
func plain() api.Scheme {
	a := api.Column{Name: "a", Kind: api.KindInt, Lo: -9, Hi: 9}
	b := api.Column{Name: "b", Kind: api.KindText, Hi: 4}
	return api.Scheme{{Name: "t", Cols: []api.Column{a, b}}, {Name: "u", Cols: []api.Column{a}}, {Name: "v"}}
}

// read reads the text of a plan.
func read(t *testing.T, text string) api.Plan {
	t.Helper()
	p, e := readText(t, text)
	if e != api.OK {
		t.Fatalf("Read(%q) is %v", text, e)
	}
	return p
}

// exprs reads the texts of expressions with commas.
func exprs(t *testing.T, texts string) []api.Expr {
	t.Helper()
	return read(t, "project["+texts+"](scan[0])").Exprs
}

func expr(t *testing.T, text string) api.Expr {
	t.Helper()
	return exprs(t, text)[0]
}

// columns checks Check and Columns.
func columns(t *testing.T, s api.Scheme, p api.Plan, outer [][]api.Kind) ([]api.Kind, api.Errno) {
	t.Helper()
	gs, gp, gk := roomy(s), roomy(p), roomy(outer)
	got, e := algebra.Columns(gs, gp, gk)
	checkMemory(t, []any{gs, gp, gk}, []any{s, p, outer}, got)
	want, err := refColumns(s, p, outer)
	if e != err || !same(got, want) {
		t.Errorf("Columns of %s on %v is %v, %v; want %v, %v", show(p), outer, got, e, want, err)
	}
	if e := algebra.Check(gs, gp, gk); e != err {
		t.Errorf("Check of %s on %v is %v; want %v", show(p), outer, e, err)
	}
	checkMemory(t, []any{gs, gp, gk}, []any{s, p, outer})
	return got, e
}

// kindOf checks Kind.
func kindOf(t *testing.T, s api.Scheme, x api.Expr, kinds [][]api.Kind) (api.Kind, api.Errno) {
	t.Helper()
	gs, gx, gk := roomy(s), roomy(x), roomy(kinds)
	got, e := algebra.Kind(gs, gx, gk)
	checkMemory(t, []any{gs, gx, gk}, []any{s, x, kinds})
	if want, err := refKind(s, x, kinds); e != err || got != want {
		t.Errorf("Kind of %+v on %v is %v, %v; want %v, %v", x, kinds, got, e, want, err)
	}
	return got, e
}

// outerOf checks Outer.
func outerOf(t *testing.T, s api.Scheme, p api.Plan, outer [][]api.Kind, position []int) ([][]api.Kind, api.Errno) {
	t.Helper()
	gs, gp, gk, at := roomy(s), roomy(p), roomy(outer), roomy(position)
	got, e := algebra.Outer(gs, gp, gk, at)
	checkMemory(t, []any{gs, gp, gk, at}, []any{s, p, outer, position}, got)
	var want [][]api.Kind
	_, err := refColumns(s, p, outer)
	if err == api.OK {
		want, err = refOuter(s, p, outer, position)
	}
	if e != err || !same(got, want) {
		t.Errorf("Outer of %s on %v at %v is %v, %v; want %v, %v", show(p), outer, position, got, e, want, err)
	}
	return got, e
}

// size checks Size.
func size(t *testing.T, p api.Plan) int {
	t.Helper()
	given := roomy(p)
	n := algebra.Size(given)
	checkMemory(t, []any{given}, []any{p})
	if want := min(nodesOf(p), 401); n != want {
		t.Errorf("Size of %s is %d; want %d", show(p), n, want)
	}
	return n
}

func sizeExpr(t *testing.T, x api.Expr) int {
	t.Helper()
	given := roomy(x)
	n := algebra.SizeExpr(given)
	checkMemory(t, []any{given}, []any{x})
	if want := min(nodesOf(x), 401); n != want {
		t.Errorf("SizeExpr of %+v is %d; want %d", x, n, want)
	}
	return n
}

// isEqual checks Equal in both directions, and of each of the plans with itself.
func isEqual(t *testing.T, p, q api.Plan) bool {
	t.Helper()
	gp, gq := roomy(p), roomy(q)
	is, back := algebra.Equal(gp, gq), algebra.Equal(gq, gp)
	if want := same(p, q); is != want || back != want || !algebra.Equal(gp, p) {
		t.Errorf("Equal of %s and %s is %v, %v; want %v", show(p), show(q), is, back, want)
	}
	checkMemory(t, []any{gp, gq}, []any{p, q})
	return is
}

func isEqualExpr(t *testing.T, x, y api.Expr) bool {
	t.Helper()
	gx, gy := roomy(x), roomy(y)
	is, back := algebra.EqualExpr(gx, gy), algebra.EqualExpr(gy, gx)
	if want := same(x, y); is != want || back != want || !algebra.EqualExpr(gx, x) {
		t.Errorf("EqualExpr of %+v and %+v is %v, %v; want %v", x, y, is, back, want)
	}
	checkMemory(t, []any{gx, gy}, []any{x, y})
	return is
}

// parts checks Parts.
func parts(t *testing.T, p api.Plan) []api.Plan {
	t.Helper()
	given := roomy(p)
	list := algebra.Parts(given)
	checkMemory(t, []any{given}, []any{p}, list)
	var want []api.Plan
	for _, part := range refParts(p) {
		want = append(want, *part)
	}
	if !same(list, want) {
		t.Errorf("Parts of %s are %+v; want %+v", show(p), list, want)
	}
	return list
}

// at checks At.
func at(t *testing.T, p api.Plan, position []int) (api.Plan, api.Errno) {
	t.Helper()
	gp, where := roomy(p), roomy(position)
	got, e := algebra.At(gp, where)
	checkMemory(t, []any{gp, where}, []any{p, position}, got)
	want, err := api.Plan{}, api.ErrPlace
	if part := refAt(&p, position); part != nil {
		want, err = *part, api.OK
	}
	if e != err || !same(got, want) {
		t.Errorf("At of %s, %v is %s, %v; want %s, %v", show(p), position, show(got), e, show(want), err)
	}
	return got, e
}

// put checks Put.
func put(t *testing.T, p api.Plan, position []int, q api.Plan) (api.Plan, api.Errno) {
	t.Helper()
	gp, where, gq := roomy(p), roomy(position), roomy(q)
	got, e := algebra.Put(gp, where, gq)
	checkMemory(t, []any{gp, where, gq}, []any{p, position, q}, got)
	want, err := clone(p), api.OK
	if part := refAt(&want, position); part != nil {
		*part = clone(q)
	} else {
		want, err = api.Plan{}, api.ErrPlace
	}
	if e != err || !same(got, want) {
		t.Errorf("Put of %s, %v, %s is %s, %v; want %s, %v", show(p), position, show(q), show(got), e, show(want), err)
	}
	if e == api.OK {
		if back, e := at(t, got, position); e != api.OK || !same(back, q) {
			t.Errorf("At of what Put returned, %v is %s, %v; want %s", position, show(back), e, show(q))
		}
	}
	return got, e
}

// printed checks Print, and that Read of what it returns is the plan.
func printed(t *testing.T, p api.Plan) (string, api.Errno) {
	t.Helper()
	given := roomy(p)
	got, e := algebra.Print(given)
	checkMemory(t, []any{given}, []any{p})
	want, err := "", api.ErrForm
	if refFormed(p) {
		want, err = refText(p), api.OK
	}
	if got != want || e != err {
		t.Errorf("Print of %+v is %q, %v; want %q, %v", p, got, e, want, err)
	}
	if e == api.OK {
		if back, err := readText(t, got); err != api.OK || !same(back, p) {
			t.Errorf("Read(%q) is %+v, %v; want %+v", got, back, err, p)
		}
	}
	return got, e
}

// printedExpr checks PrintExpr.
func printedExpr(t *testing.T, x api.Expr) (string, api.Errno) {
	t.Helper()
	given := roomy(x)
	got, e := algebra.PrintExpr(given)
	checkMemory(t, []any{given}, []any{x})
	want, err := "", api.ErrForm
	if refFormedExpr(x) {
		want, err = refExprText(x), api.OK
	}
	if got != want || e != err {
		t.Errorf("PrintExpr of %+v is %q, %v; want %q, %v", x, got, e, want, err)
	}
	return got, e
}

// readText checks Read.
func readText(t *testing.T, text string) (api.Plan, api.Errno) {
	t.Helper()
	p, e := algebra.Read(text)
	want, ok := refRead(text)
	if (e == api.OK) != ok || !ok && e != api.ErrText || !same(p, want) {
		t.Errorf("Read(%q) is %+v, %v; want %+v, %v", text, p, e, want, ok)
	}
	if sharing(p) {
		t.Errorf("Read(%q): lists of %+v share memory", text, p)
	}
	return p, e
}

// show returns the text of a plan, if it is formed, or what its fields are.
func show(p api.Plan) string {
	if refFormed(p) {
		return refText(p)
	}
	return fmt.Sprintf("%+v", p)
}
