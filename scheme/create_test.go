package scheme_test

import (
	"fmt"
	"math"
	"strings"
	"testing"

	"jointer/api"
)

// base returns two tables with rows: t has keys over (a, b) and over b, u refers to it.
func base() (api.Scheme, api.Data) {
	tables := api.Scheme{
		{Name: "t", Cols: []api.Column{intColumn("a"), textColumn("b")}, Keys: [][]int{{0, 1}, {1}}, Indexes: []int{1}},
		{Name: "u", Cols: []api.Column{textColumn("x"), intColumn("y")}, Refs: []api.Ref{{Cols: []int{1, 0}}}},
	}
	return tables, api.Data{{row(num(1), word("p")), row(null, word("q"))}, {row(word("p"), num(1))}}
}

// isCreated calls Create, and checks its error.
func isCreated(t *testing.T, what string, s api.Scheme, d api.Data, x definition, want api.Errno) api.Table {
	t.Helper()
	as, _, e := create(t, s, d, x)
	if e != want {
		t.Errorf("%s: Create %+v is %v; want %v", what, x, e, want)
	}
	if e != api.OK {
		return api.Table{}
	}
	return as[len(s)]
}

// P7.2

func TestCreateTypes(t *testing.T) {
	made := isCreated(t, "types", nil, nil, definition{Table: "t", Cols: []api.ColumnDef{
		{Name: "a"}, {Name: "b", HasRange: true, Lo: -1, Hi: 1}, {Name: "c", HasRange: true}, {Name: "d", Type: api.TypeBig, NotNull: true},
		{Name: "e", Type: api.TypeText}, {Name: "f", Type: api.TypeText, HasRange: true}, {Name: "g", Type: api.TypeText, HasRange: true, Hi: 100, NotNull: true}, {Name: "h", Type: api.TypeBool},
	}}, api.OK)
	want := []api.Column{
		{Name: "a", Kind: api.KindInt, Lo: math.MinInt32, Hi: math.MaxInt32}, {Name: "b", Kind: api.KindInt, Lo: -1, Hi: 1}, {Name: "c", Kind: api.KindInt}, {Name: "d", Kind: api.KindInt, NotNull: true, Lo: math.MinInt64, Hi: math.MaxInt64},
		{Name: "e", Kind: api.KindText, Hi: 100}, {Name: "f", Kind: api.KindText}, {Name: "g", Kind: api.KindText, Hi: 100, NotNull: true}, {Name: "h", Kind: api.KindBool},
	}
	if !same(made, api.Table{Name: "t", Cols: want}) {
		t.Errorf("the table is %+v", made)
	}
}

// TestColumnDefs tries types with numbers around their limits.
func TestColumnDefs(t *testing.T) {
	ends := []int64{math.MinInt64, -1, 0, 1, 99, 100, 101, math.MaxInt64}
	for kind := range api.TypeName(6) {
		for _, lo := range ends {
			for _, hi := range ends {
				for _, has := range []bool{false, true} {
					create(t, nil, nil, definition{Table: "t", Cols: []api.ColumnDef{{Name: "a", Type: kind, HasRange: has, Lo: lo, Hi: hi, NotNull: lo == 0}}})
				}
			}
		}
	}
}

// TestCreateKeys tries all lists of up to four names as a key.
func TestCreateKeys(t *testing.T) {
	cols := []api.ColumnDef{{Name: "b"}, {Name: "a"}, {Name: "c"}}
	for _, l := range lists(4, "a", "b", "c", "d", "", "A") {
		create(t, nil, nil, definition{Table: "t", Cols: cols, Keys: [][]string{l}})
	}
	made := isCreated(t, "keys", nil, nil, definition{Table: "t", Cols: cols, Keys: [][]string{names("c", "a", "b"), names("c"), names("a", "b"), names("b", "a")}}, api.OK)
	if !same(made.Keys, [][]int{{0, 1, 2}, {2}, {0, 1}, {0, 1}}) {
		t.Errorf("the keys are %v", made.Keys)
	}
}

// TestCreateRefs tries all pairs of lists of up to three names as a reference.
func TestCreateRefs(t *testing.T) {
	s := api.Scheme{three("t"), three("u")}
	s[0].Keys = [][]int{{2}, {0, 1}, {0, 1, 2}, {0, 1}}
	s[1].Keys = [][]int{{1}}
	cols := []api.ColumnDef{{Name: "x"}, {Name: "y", Type: api.TypeText}, {Name: "a", Type: api.TypeBig}}
	for _, from := range lists(3, "x", "y", "a", "z") {
		for _, to := range lists(3, "a", "b", "c", "x") {
			create(t, s, make(api.Data, 2), definition{Table: "v", Cols: cols, Refs: []api.RefDef{{Cols: from, Table: "t", Keys: to}}})
			create(t, s, make(api.Data, 2), definition{Table: "v", Cols: cols, Refs: []api.RefDef{{Cols: from, Table: "u", Keys: to}, {Cols: from, Table: "t", Keys: to}}})
		}
	}
	made := isCreated(t, "references", s, make(api.Data, 2), definition{Table: "v", Cols: cols, Refs: []api.RefDef{
		{Cols: names("x", "a"), Table: "t", Keys: names("b", "a")}, {Cols: names("y", "x", "a"), Table: "t", Keys: names("c", "a", "b")}, {Cols: names("a"), Table: "u", Keys: names("b")}, {Cols: names("y"), Table: "t", Keys: names("c")},
	}}, api.OK)
	if !same(made.Refs, []api.Ref{{Cols: []int{2, 0}, Key: 1}, {Cols: []int{0, 2, 1}, Key: 2}, {Cols: []int{2}, Table: 1}, {Cols: []int{1}}}) {
		t.Errorf("the references are %v", made.Refs)
	}
	for _, table := range []string{"v", "w", "x"} { // a table does not refer to itself
		isCreated(t, "no table before", s, make(api.Data, 2), definition{Table: "v", Cols: cols, Keys: [][]string{{"x"}}, Refs: []api.RefDef{{Cols: names("x"), Table: table, Keys: names("x")}}}, api.ErrNone)
	}
}

// TestCreateExample is the example of the chapter.
func TestCreateExample(t *testing.T) {
	s := api.Scheme{{Name: "t", Cols: []api.Column{intColumn("a"), intColumn("b")}, Keys: [][]int{{0, 1}}}}
	x := definition{Table: "u", Cols: []api.ColumnDef{{Name: "x"}, {Name: "y"}}, Refs: []api.RefDef{{Cols: names("x", "y"), Table: "t", Keys: names("b", "a")}}}
	if made := isCreated(t, "example", s, make(api.Data, 1), x, api.OK); !same(made.Refs, []api.Ref{{Cols: []int{1, 0}}}) {
		t.Errorf("the references are %v", made.Refs)
	}
}

// TestCreateNames tries names and what is none at all places where one can stand.
func TestCreateNames(t *testing.T) {
	s, d := base()
	for _, name := range []string{"a", "_", strings.Repeat("a", 20), strings.Repeat("a", 21), "", "A", "1", "a b", "select", "t", "u"} {
		for i, x := range []definition{
			{Table: name},
			{Table: "v", Cols: []api.ColumnDef{{Name: name}}},
			{Table: "v", Cols: []api.ColumnDef{{Name: "x"}, {Name: name, Type: api.TypeBool}}},
			{Table: "v", Cols: []api.ColumnDef{{Name: "a"}}, Keys: [][]string{{"a"}, {name}}},
			{Table: "v", Cols: []api.ColumnDef{{Name: "a"}, {Name: "b"}}, Keys: [][]string{{"b", name}}},
			{Table: "v", Cols: []api.ColumnDef{{Name: "a"}}, Refs: []api.RefDef{{Cols: names("a"), Table: name, Keys: names("a")}}},
			{Table: "v", Cols: []api.ColumnDef{{Name: "a"}, {Name: "b"}}, Refs: []api.RefDef{{Cols: names("b", name), Table: "t", Keys: names("a", "b")}}},
			{Table: "v", Cols: []api.ColumnDef{{Name: "a"}, {Name: "b"}}, Refs: []api.RefDef{{Cols: names("a", "b"), Table: "t", Keys: names("b", name)}}},
		} {
			if _, _, e := create(t, s, d, x); (e == api.ErrArg) == (refStands(definition{Table: name})) {
				t.Errorf("%q at place %d: %v", name, i, e)
			}
		}
	}
}

// TestCreateLimits tries numbers from both sides of the limits, and far above the number of nodes of a command.
func TestCreateLimits(t *testing.T) {
	s, d := base()
	def := func(i int) api.ColumnDef { return api.ColumnDef{Name: fmt.Sprint("x", i)} }
	key := func(int) []string { return names("x0") }
	ref := func(int) api.RefDef { return api.RefDef{Cols: names("x0"), Table: "t", Keys: names("b")} }
	one := []api.ColumnDef{{Name: "x0", Type: api.TypeText}}
	errno := func(isFull bool) api.Errno {
		if isFull {
			return api.ErrFull
		}
		return api.OK
	}
	for _, n := range []int{0, 1, 4, 5, 7, 8, 9, 10, 500} {
		isCreated(t, "columns", s, d, definition{Table: "v", Cols: many(n, def)}, errno(n > 8))
		isCreated(t, "keys", s, d, definition{Table: "v", Cols: one, Keys: many(n, key)}, errno(n > 4))
		isCreated(t, "references", s, d, definition{Table: "v", Cols: one, Refs: many(n, ref)}, errno(n > 4))
	}
	same := many(500, func(int) string { return "x0" })
	isCreated(t, "a key of many names", s, d, definition{Table: "v", Cols: one, Keys: [][]string{same}}, api.ErrTwice)
	isCreated(t, "a reference of many names", s, d, definition{Table: "v", Cols: one, Refs: []api.RefDef{{Cols: same, Table: "t", Keys: same}}}, api.ErrTwice)
	isCreated(t, "a reference to many names", s, d, definition{Table: "v", Cols: one, Refs: []api.RefDef{{Cols: same[:1], Table: "t", Keys: same}}}, api.ErrWidth)
	s, d = nil, nil
	for n := range 16 {
		s, d, _ = create(t, s, d, definition{Table: fmt.Sprint("t", n), Cols: many(n%9, def)})
	}
	isCreated(t, "one more table", s, d, definition{Table: "v"}, api.ErrFull)
	isCreated(t, "a table that is there", s, d, definition{Table: "t7"}, api.ErrTwice)
	if len(s) != 16 || len(s[10].Cols) != 1 {
		t.Errorf("16 tables: %+v", s)
	}
}

// TestCreateOrder joins each two things that are wrong: the first one is the error.
func TestCreateOrder(t *testing.T) {
	type fault struct {
		what string
		e    api.Errno
		make func(d *api.Data, x *definition)
	}
	faults := []fault{
		{"the data", api.ErrArg, func(d *api.Data, x *definition) { *d = (*d)[:1] }},
		{"the name of the table", api.ErrArg, func(d *api.Data, x *definition) { x.Table += "A" }},
		{"a name of a column", api.ErrArg, func(d *api.Data, x *definition) { x.Cols[2].Name = "select" }},
		{"a key without names", api.ErrArg, func(d *api.Data, x *definition) { x.Keys[1] = nil }},
		{"a name of a reference", api.ErrArg, func(d *api.Data, x *definition) { x.Refs[1].Keys[1] += "A" }},
		{"a table that is there", api.ErrTwice, func(d *api.Data, x *definition) { x.Table = "u" }},
		{"too many keys", api.ErrFull, func(d *api.Data, x *definition) { x.Keys = append(x.Keys, x.Keys[0], x.Keys[0], x.Keys[0]) }},
		{"a column twice", api.ErrTwice, func(d *api.Data, x *definition) { x.Cols = append(x.Cols, x.Cols[0]) }},
		{"no column for a key", api.ErrNone, func(d *api.Data, x *definition) { x.Keys[0] = append(x.Keys[0], "nope") }},
		{"a name twice in a key", api.ErrTwice, func(d *api.Data, x *definition) { x.Keys[0] = append(names("x", "x"), x.Keys[0]...) }},
		{"no column for the second key", api.ErrNone, func(d *api.Data, x *definition) { x.Keys[1] = append(x.Keys[1], "nope") }},
		{"no table", api.ErrNone, func(d *api.Data, x *definition) { x.Refs[0].Table = "v" }},
		{"no column for a reference", api.ErrNone, func(d *api.Data, x *definition) { x.Refs[0].Cols = append(x.Refs[0].Cols, "nope") }},
		{"a column twice in a reference", api.ErrTwice, func(d *api.Data, x *definition) { x.Refs[0].Cols = append(x.Refs[0].Cols, x.Refs[0].Cols[0]) }},
		{"a width", api.ErrWidth, func(d *api.Data, x *definition) { x.Refs[0].Keys = append(x.Refs[0].Keys, "a") }},
		{"no key", api.ErrNone, func(d *api.Data, x *definition) { x.Refs[0].Keys[0] = "x" }},
		{"the kinds", api.ErrType, func(d *api.Data, x *definition) { x.Refs[0].Cols[1] = "z" }},
		{"a column twice in the second reference", api.ErrTwice, func(d *api.Data, x *definition) { x.Refs[1].Cols = names("x", "x", "x") }},
		{"a width of the second reference", api.ErrWidth, func(d *api.Data, x *definition) { x.Refs[1].Keys = append(x.Refs[1].Keys, "a") }},
	}
	for i, first := range faults {
		for _, second := range faults[i:] {
			s, d := base()
			x := definition{
				Table: "v", Cols: []api.ColumnDef{{Name: "x"}, {Name: "y", Type: api.TypeText}, {Name: "z", Type: api.TypeBool}}, Keys: [][]string{{"x"}, {"y"}},
				Refs: []api.RefDef{{Cols: names("x", "y"), Table: "t", Keys: names("a", "b")}, {Cols: names("x", "y"), Table: "t", Keys: names("a", "b")}},
			}
			isCreated(t, "the base", s, d, x, api.OK)
			second.make(&d, &x)
			if first.what != second.what {
				first.make(&d, &x)
			}
			isCreated(t, first.what+" and "+second.what, s, d, x, first.e)
		}
	}
}

func TestDrop(t *testing.T) {
	s, d := base()
	s = append(s, api.Table{Name: "v", Cols: []api.Column{boolColumn("k")}, Keys: [][]int{{0}}}, api.Table{Name: "w", Cols: []api.Column{textColumn("x"), boolColumn("k")}, Refs: []api.Ref{{Cols: []int{1}, Table: 2}, {Cols: []int{0}, Table: 0, Key: 1}}})
	d = append(d, []api.Row{row(yes)}, []api.Row{row(word("q"), yes)})
	for table, want := range map[string]api.Errno{"t": api.ErrInUse, "u": api.OK, "v": api.ErrInUse, "w": api.OK, "x": api.ErrNone, "": api.ErrNone} {
		if _, _, e := drop(t, s, d, table); e != want {
			t.Errorf("Drop %q is %v; want %v", table, e, want)
		}
		if _, _, e := drop(t, s, d[:3], table); e != api.ErrArg {
			t.Errorf("Drop %q without data is %v", table, e)
		}
	}
	s, d, _ = drop(t, s, d, "u")
	if len(s) != 3 || !same(s[2].Refs, []api.Ref{{Cols: []int{1}, Table: 1}, {Cols: []int{0}, Table: 0, Key: 1}}) || !same(d[2], []api.Row{row(word("q"), yes)}) {
		t.Errorf("without u: %+v, %+v", s, d)
	}
	for _, table := range []string{"w", "t", "v"} {
		var e api.Errno
		if s, d, e = drop(t, s, d, table); e != api.OK {
			t.Errorf("Drop %q is %v", table, e)
		}
	}
	if _, _, e := drop(t, nil, nil, "t"); len(s) != 0 || e != api.ErrNone {
		t.Errorf("no tables: %+v, %v", s, e)
	}
}
