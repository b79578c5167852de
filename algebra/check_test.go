package algebra_test

import (
	"fmt"
	"slices"
	"strings"
	"testing"

	"jointer/api"
)

// P8.1

// TestColumns looks at the columns of each operator.
func TestColumns(t *testing.T) {
	for _, x := range []struct{ text, want string }{
		{"rows[int bool: (1, TRUE), (NULL, FALSE)]", "int bool"}, {"rows[:]", ""}, {"rows[null text: (NULL, NULL)]", "null text"},
		{"scan[0]", "int text"}, {"scan[2]", ""},
		{"filter[eq(c0, 1)](scan[0])", "int text"}, {"distinct(scan[0])", "int text"}, {"sort[1](scan[0])", "int text"}, {"limit[1 desc; 1; 2](scan[0])", "int text"},
		{"project[](scan[0])", ""}, {"project[c1, c0, NULL, TRUE, 'x', 7](scan[0])", "text int null bool text int"},
		{"inner[](scan[0], scan[1])", "int text int"}, {"left[](scan[1], scan[0])", "int int text"}, {"full[](scan[0], scan[2])", "int text"},
		{"semi[eq(c0, c2)](scan[0], scan[1])", "int text"}, {"anti[eq(c0, c2)](scan[0], scan[1])", "int text"}, {"notin[c0](scan[0], scan[1])", "int text"},
		{"group[:](scan[0])", ""}, {"group[1 0 1:](scan[0])", "text int text"},
		{"group[: rows, count 1, count distinct 0, sum 0, avg distinct 0](scan[0])", "int int int int int"}, {"group[1: min 1, max 0, max distinct 1](scan[0])", "text text int text"}, {"group[: min 0, max 1, sum 0, avg 0](rows[null bool:])", "null bool int int"},
		{"group[: rows](scan[2])", "int"},
		{"union(rows[null int null:], rows[text null null:])", "text int null"}, {"intersect(rows[bool:], rows[null:])", "bool"}, {"except(rows[null:], rows[bool:])", "bool"}, {"except(scan[2], rows[:])", ""},
		{"project[scalar{scan[1]}, exists{scan[0]}, in(NULL, {rows[bool:]}), in('a', {rows[null:]}), scalar{rows[null:]}](scan[2])", "int bool bool bool null"},
		{"project[case(NULL, NULL), case(TRUE, NULL, NULL, 'a'), coalesce(NULL, NULL), coalesce(NULL, 1), and(), or(), neg(NULL), isnull(NULL)](scan[2])", "null text null int bool bool int bool"},
		// The rows outside of a subplan are the operator's row and those outside of it, the innermost one first.
		{"filter[exists{filter[eq(c0, c0^1), like(c1^1, 'a')](scan[1])}](scan[0])", "int text"},
		{"project[scalar{project[scalar{project[c1^2](scan[1])}](scan[2])}](scan[0])", "text"},
		{"project[scalar{project[c1^1](inner[eq(c0, c0^1)](scan[1], scan[2]))}](scan[0])", "text"},
		{"left[exists{filter[eq(c2^1, c0), eq(c1^1, 'a')](scan[1])}](scan[0], scan[1])", "int text int"},
		{"semi[in(c2, {project[c2^1](scan[2])})](scan[1], rows[bool text:])", "int"}, {"notin[scalar{project[c1^1](scan[1])}](scan[0], rows[text:])", "int text"},
	} {
		cols, e := columns(t, plain(), read(t, x.text), nil)
		got := joined(cols, " ", func(k api.Kind) string { return refKindWords[k] })
		if e != api.OK || got != x.want {
			t.Errorf("the columns of %s are %q, %v", x.text, got, e)
		}
	}
	p := read(t, "project[c1^1, c0^2, exists{filter[c0^2](scan[0])}](scan[2])")
	if cols, e := columns(t, plain(), p, [][]api.Kind{{api.KindBool, api.KindText}, {api.KindInt}}); e != api.OK || !slices.Equal(cols, []api.Kind{api.KindText, api.KindInt, api.KindBool}) {
		t.Errorf("the rows outside: %v, %v", cols, e)
	}
}

// faults has plans with an error each, by the number of the chapter's list.
var faults = []struct {
	text string
	e    api.Errno
}{
	{"scan[3]", api.ErrColumn}, {"scan[2147483647]", api.ErrColumn}, {"filter[](scan[3])", api.ErrColumn}, {"union(scan[3], scan[4])", api.ErrColumn},
	{"group[2:](scan[0])", api.ErrColumn}, {"group[0 1 2:](scan[0])", api.ErrColumn}, {"group[: count 2](scan[0])", api.ErrColumn}, {"group[: rows, min distinct 7](scan[0])", api.ErrColumn}, {"sort[0, 2](scan[0])", api.ErrColumn}, {"limit[2; 0; 0](scan[0])", api.ErrColumn}, {"group[0:](scan[2])", api.ErrColumn},
	{"group[: sum 1, min 2](scan[0])", api.ErrColumn}, {"group[: sum 2147483647](scan[0])", api.ErrColumn},
	{"group[: sum 1](scan[0])", api.ErrKind}, {"group[: rows, avg distinct 1](scan[0])", api.ErrKind}, {"group[: avg 0](rows[bool:])", api.ErrKind},
	{"project[c2](scan[0])", api.ErrColumn}, {"project[c0^1](scan[0])", api.ErrColumn}, {"project[exists{scan[7]}](scan[0])", api.ErrColumn}, {"notin[c2](scan[0], scan[1])", api.ErrColumn}, {"inner[eq(c0, c3)](scan[0], scan[1])", api.ErrColumn}, {"filter[eq(c0^1, 1)](scan[0])", api.ErrColumn},
	{"project[in(c0, {scan[0]})](scan[0])", api.ErrColumn}, {"project[in(c0, {scan[2]})](scan[0])", api.ErrColumn}, {"project[scalar{scan[0]}](scan[0])", api.ErrColumn}, {"project[scalar{scan[2]}](scan[0])", api.ErrColumn},
	{"project[exists{filter[c0^2](scan[1])}](scan[0])", api.ErrColumn}, {"project[scalar{project[c1](scan[1])}](scan[0])", api.ErrColumn},
	{"project[in(c1, {scan[1]})](scan[0])", api.ErrKind}, {"project[in(c0, {rows[text:]})](scan[0])", api.ErrKind}, {"project[add(c0, c1)](scan[0])", api.ErrKind}, {"project[coalesce(c0, c1)](scan[0])", api.ErrKind}, {"project[case(c0, 1)](scan[0])", api.ErrKind}, {"project[not(c0)](scan[0])", api.ErrKind},
	{"project[eq(c0)](scan[0])", api.ErrForm}, {"project[not()](scan[0])", api.ErrForm}, {"project[case(TRUE)](scan[0])", api.ErrForm}, {"project[coalesce()](scan[0])", api.ErrForm}, {"project[add(1, 2, 3)](scan[0])", api.ErrForm},
	{"filter[c0](scan[0])", api.ErrKind}, {"filter['a'](scan[0])", api.ErrKind}, {"inner[c1](scan[1], scan[0])", api.ErrKind}, {"anti[c0](scan[0], scan[1])", api.ErrKind}, {"full[TRUE, 1](scan[0], scan[1])", api.ErrKind}, {"semi[scalar{scan[1]}](scan[0], scan[1])", api.ErrKind},
	{"notin[c0](scan[0], scan[0])", api.ErrColumn}, {"notin[c0](scan[0], scan[2])", api.ErrColumn}, {"notin[c1](scan[0], scan[1])", api.ErrKind},
	{"union(scan[0], scan[1])", api.ErrColumn}, {"except(scan[0], rows[text int int:])", api.ErrColumn}, {"intersect(scan[0], rows[int int:])", api.ErrKind}, {"union(rows[null text:], scan[0])", api.OK}, {"union(rows[text null:], scan[0])", api.ErrKind}, {"except(rows[text:], scan[0])", api.ErrColumn},
	{"rows[" + strings.Repeat("int ", 64) + "int:]", api.ErrLimit}, {"group[" + strings.Repeat("0 ", 64) + "0:](scan[0])", api.ErrLimit}, {"group[0: rows" + strings.Repeat(", rows", 63) + "](scan[0])", api.ErrLimit}, {"project[c0" + strings.Repeat(", c0", 64) + "](scan[0])", api.ErrLimit},
}

func TestFaults(t *testing.T) {
	for _, x := range faults {
		if _, e := columns(t, plain(), read(t, x.text), nil); e != x.e {
			t.Errorf("the error of %s is %v; want %v", x.text, e, x.e)
		}
	}
}

// TestFirstFault puts two plans with errors where one is examined before the other, and each of them where something else is wrong above it.
func TestFirstFault(t *testing.T) {
	first := func(e api.Errno, form string, texts ...any) {
		t.Helper()
		text := fmt.Sprintf(form, texts...)
		if _, err := columns(t, plain(), read(t, text), nil); e != api.OK && err != e {
			t.Errorf("the error of %s is %v; want %v", text, err, e)
		}
	}
	above := []string{
		"filter[c9](%s)", "sort[99](%s)", "group[99: sum 99](%s)", "group[: sum 0, sum 1](%s)", "project[add('a')](%s)", "inner[c0, c99, 5](%s, scan[9])", "notin[eq()](%s, scan[0])", "notin['a'](%s, scan[0])", "union(%s, scan[9])", "except(%s, scan[0])",
		"project[add(exists{%s}, c99)](scan[0])", "filter[in(c0, {%s})](scan[1])", "filter[scalar{%s}, c99](scan[0])",
	}
	for _, x := range faults {
		if x.e == api.OK {
			continue
		}
		for _, form := range above {
			if !strings.Contains(form, "{") || !strings.Contains(x.text, "^") { // in a subplan there are other rows outside
				first(x.e, form, x.text)
			}
		}
		first(api.ErrColumn, "union(scan[9], %s)", x.text)
		first(api.ErrKind, "inner[](filter[5](scan[0]), %s)", x.text)
		first(api.ErrForm, "filter[and(eq(), exists{%s})](scan[0])", x.text)
		first(api.ErrForm, "filter[in(neg(), {%s})](scan[0])", x.text)
		for _, y := range faults {
			first(x.e, "left[exists{%[2]s}](%[1]s, %[2]s)", x.text, y.text)
		}
	}
	for _, x := range []struct {
		text string
		e    api.Errno
	}{
		{"filter[c0, c9](scan[0])", api.ErrKind}, {"filter[c9, c0](scan[0])", api.ErrColumn}, {"filter[TRUE, c9](scan[0])", api.ErrColumn}, {"filter[neg(c1)](scan[0])", api.ErrKind}, {"filter[neg(c9)](scan[0])", api.ErrColumn}, {"filter[neg()](scan[0])", api.ErrForm},
		{"project[in(c1, {scan[0]})](scan[0])", api.ErrColumn}, {"project[in(eq(), {scan[0]})](scan[0])", api.ErrForm}, {"project[eq(eq(), c9)](scan[0])", api.ErrForm}, {"project[eq(c9, eq())](scan[0])", api.ErrColumn}, {"project[neg(c9, c9)](scan[0])", api.ErrColumn}, {"project[neg('a', 'a')](scan[0])", api.ErrForm},
		{"notin[c1](scan[0], scan[0])", api.ErrColumn}, {"notin[c9](scan[0], scan[0])", api.ErrColumn}, {"notin[eq(c0, c1)](scan[0], scan[0])", api.ErrKind}, {"notin[eq()](scan[0], scan[0])", api.ErrForm},
		{"union(scan[1], rows[text text:])", api.ErrColumn}, {"group[: sum 1, count 2](scan[0])", api.ErrColumn},
	} {
		first(x.e, "%s", x.text)
	}
	// A node's own errors come before too many columns, and those of the nodes above it behind.
	wide := "rows[" + strings.Repeat("int ", 64) + "int:]"
	half := "rows[int" + strings.Repeat(" int", 39) + ":]"
	first(api.ErrColumn, "inner[eq(c80, 1)](%s, %s)", half, half)
	first(api.ErrLimit, "inner[eq(c79, 1)](%s, %s)", half, half)
	first(api.OK, "semi[eq(c79, 1)](%s, %s)", half, half)
	first(api.ErrKind, "full[c79](%s, %s)", half, half)
	first(api.ErrLimit, "filter[c99](%s)", wide)
	first(api.ErrLimit, "notin[c0](scan[1], %s)", wide)
	first(api.ErrLimit, "union(scan[1], %s)", wide)
	first(api.ErrKind, "group[: sum 1%s](scan[0])", strings.Repeat(", rows", 64))
}

// TestWidth tries numbers of columns on both sides of the limit.
func TestWidth(t *testing.T) {
	wide := func(n int) string { return "rows[" + strings.TrimSuffix(strings.Repeat("int ", n), " ") + ":]" }
	for _, x := range []struct {
		text string
		e    api.Errno
	}{
		{wide(64), api.OK}, {wide(65), api.ErrLimit}, {"inner[](" + wide(32) + ", " + wide(32) + ")", api.OK}, {"left[](" + wide(32) + ", " + wide(33) + ")", api.ErrLimit}, {"full[](" + wide(64) + ", " + wide(1) + ")", api.ErrLimit},
		{"semi[](" + wide(64) + ", " + wide(64) + ")", api.OK}, {"anti[](" + wide(64) + ", " + wide(65) + ")", api.ErrLimit}, {"project[exists{" + wide(65) + "}](scan[0])", api.ErrLimit}, {"notin[c63](" + wide(64) + ", scan[1])", api.OK},
		{"group[" + strings.Repeat("0 ", 62) + "0: rows](scan[0])", api.OK}, {"group[" + strings.Repeat("0 ", 63) + "0: rows](scan[0])", api.ErrLimit}, {"project[c0" + strings.Repeat(", c0", 63) + "](scan[0])", api.OK},
	} {
		if _, e := columns(t, plain(), read(t, x.text), nil); e != x.e {
			t.Errorf("the error of %s is %v; want %v", x.text, e, x.e)
		}
	}
}

func TestKind(t *testing.T) {
	on := [][]api.Kind{{api.KindInt, api.KindText}, {api.KindBool}, {}, {api.KindNull}}
	for _, x := range []struct {
		text string
		kind api.Kind
		e    api.Errno
	}{
		{"NULL", 0, api.OK}, {"7", api.KindInt, api.OK}, {"''", api.KindText, api.OK}, {"FALSE", api.KindBool, api.OK},
		{"c0", api.KindInt, api.OK}, {"c1", api.KindText, api.OK}, {"c0^1", api.KindBool, api.OK}, {"c0^3", 0, api.OK},
		{"c2", 0, api.ErrColumn}, {"c1^1", 0, api.ErrColumn}, {"c0^2", 0, api.ErrColumn}, {"c0^4", 0, api.ErrColumn}, {"c2147483647^2147483647", 0, api.ErrColumn},
		{"add(c0, c0^3)", api.KindInt, api.OK}, {"add(c0, c1)", 0, api.ErrKind}, {"add(c0)", 0, api.ErrForm}, {"add(c2, c1)", 0, api.ErrColumn},
		{"exists{filter[c0^2](scan[0])}", api.KindBool, api.OK}, {"scalar{project[c1^1](scan[0])}", api.KindText, api.OK}, {"scalar{project[c0^1, c1](scan[0])}", 0, api.ErrColumn}, {"in(c1, {project[c1](scan[0])})", api.KindBool, api.OK}, {"in(c0, {project[c1](scan[0])})", 0, api.ErrKind},
		{"exists{filter[c0^1](scan[0])}", 0, api.ErrKind}, {"case(c0^1, c0^3, c1)", api.KindText, api.OK}, {"like(c1, c0^3)", api.KindBool, api.OK}, {"length(c1)", api.KindInt, api.OK}, {"concat(c1, c1)", api.KindText, api.OK},
	} {
		if k, e := kindOf(t, plain(), expr(t, x.text), on); k != x.kind || e != x.e {
			t.Errorf("the kind of %s is %v, %v", x.text, k, e)
		}
	}
	if _, e := kindOf(t, plain(), expr(t, "c0"), nil); e != api.ErrColumn {
		t.Errorf("no rows: %v", e)
	}
	for op := range api.Op(34) { // no kids have no meaning, or a wrong number
		for _, kids := range [][]api.Expr{nil, {{}}, {{}, {}}, {{}, {}, {}}} {
			kindOf(t, nil, api.Expr{Op: op, Kids: kids}, nil)
			kindOf(t, nil, api.Expr{Op: op, Kids: kids, Sub: []api.Plan{{Kinds: []api.Kind{1}}}}, nil)
		}
	}
}

// TestGiven tries all sets of what may be wrong before the nodes are looked at: ErrArg comes before ErrLimit, and that before ErrForm.
func TestGiven(t *testing.T) {
	bad := append(plain(), api.Table{Name: "t"})
	long := slices.Repeat([]api.Expr{{}}, 400)
	for set := range 64 {
		has := func(i int) bool { return set>>i&1 == 1 }
		s, x := plain(), api.Expr{Op: api.OpAnd}
		kinds := [][]api.Kind{{1, 2, 3}, nil}
		want := api.OK
		if has(5) {
			x.Kids, want = []api.Expr{{Op: api.OpColumn, N: 9}}, api.ErrColumn
		}
		if has(4) {
			x.N, want = 1, api.ErrForm
		}
		if has(3) {
			x.Kids, want = append(x.Kids, long...), api.ErrLimit
		}
		if has(2) {
			kinds, want = append(kinds, make([][]api.Kind, 399)...), api.ErrLimit
		}
		if has(1) {
			kinds, want = append(kinds, []api.Kind{0, 4}), api.ErrArg
		}
		if has(0) {
			s, want = bad, api.ErrArg
		}
		if _, e := kindOf(t, s, x, kinds); e != want {
			t.Errorf("set %b: Kind is %v; want %v", set, e, want)
		}
		p := api.Plan{Op: api.PlanFilter, Kids: []api.Plan{{}}, Conds: []api.Expr{x}}
		if _, e := columns(t, s, p, kinds); e != want {
			t.Errorf("set %b: Columns is %v; want %v", set, e, want)
		}
		if _, e := outerOf(t, s, p, kinds, []int{9}); e != want && (want != api.OK || e != api.ErrPlace) {
			t.Errorf("set %b: Outer is %v; want %v", set, e, want)
		}
	}
}

// TestNodeLimit tries numbers of nodes and of rows outside on both sides of the limit; all nodes of subplans count.
func TestNodeLimit(t *testing.T) {
	for n := 396; n <= 404; n++ {
		want := map[bool]api.Errno{true: api.OK, false: api.ErrLimit}[n <= 400]
		x := api.Expr{Op: api.OpAnd, Kids: make([]api.Expr, n-1)}
		deep := api.Expr{Op: api.OpExists, Sub: []api.Plan{{Op: api.PlanFilter, Kids: []api.Plan{{}}, Conds: make([]api.Expr, n-3)}}}
		for _, x := range []api.Expr{x, deep} {
			if _, e := kindOf(t, nil, x, nil); e != want {
				t.Errorf("an expression of %d nodes: %v", n, e)
			}
		}
		p := api.Plan{Op: api.PlanFilter, Kids: []api.Plan{{}}, Conds: []api.Expr{{Op: api.OpAnd, Kids: make([]api.Expr, n-3)}}}
		if _, e := columns(t, nil, p, nil); e != want {
			t.Errorf("a plan of %d nodes: %v", n, e)
		}
		if _, e := columns(t, nil, api.Plan{}, make([][]api.Kind, n)); e != want {
			t.Errorf("%d rows outside: %v", n, e)
		}
		if _, e := kindOf(t, nil, api.Expr{}, make([][]api.Kind, n)); e != want {
			t.Errorf("%d rows: %v", n, e)
		}
	}
	// Trees that contain themselves have no end.
	loop := api.Expr{Op: api.OpAnd, Kids: make([]api.Expr, 1)}
	loop.Kids[0] = loop
	round := api.Plan{Op: api.PlanDistinct, Kids: make([]api.Plan, 1)}
	round.Kids[0] = round
	checkEndless(t, loop, round)
}
