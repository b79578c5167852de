package scheme_test

import (
	"math"
	"slices"
	"sort"
	"strings"

	"jointer/api"
	"jointer/lex"
	"jointer/value"
)

// The functions of this file say what the chapter's sentences say, as literally as they can be said; they may take long.

var (
	null = api.Value{}
	no   = api.Value{Kind: api.KindBool}
	yes  = api.Value{Kind: api.KindBool, Int: 1}
)

func num(n int64) api.Value { return api.Value{Kind: api.KindInt, Int: n} }

func word(s string) api.Value { return api.Value{Kind: api.KindText, Text: s} }

func row(l ...api.Value) api.Row { return l }

func names(l ...string) []string { return l }

// wrongValues are values that are not valid.
var wrongValues = []api.Value{
	{Int: 1}, {Int: -1}, {Text: "x"}, {Kind: api.KindInt, Text: "1"}, {Kind: api.KindInt, Int: 1, Text: "x"}, {Kind: api.KindText, Int: 1}, {Kind: api.KindText, Int: 1, Text: "x"},
	word(strings.Repeat("x", 101)), {Kind: api.KindBool, Int: 2}, {Kind: api.KindBool, Int: -1}, {Kind: api.KindBool, Text: "x"}, {Kind: api.KindBool, Int: 1, Text: "x"}, {Kind: 4}, {Kind: 4, Int: 1}, {Kind: 255},
}

// refValid: what makes a scheme valid.
func refValid(s api.Scheme) bool {
	if len(s) > 16 {
		return false
	}
	for n, t := range s {
		for m := range s {
			if m != n && s[m].Name == t.Name {
				return false
			}
		}
		if !lex.IsName(t.Name) || !refColumns(t.Cols) || len(t.Keys) > 4 || len(t.Refs) > 4 || !refRising(t, t.Indexes) {
			return false
		}
		for _, key := range t.Keys {
			if len(key) == 0 || !refRising(t, key) {
				return false
			}
		}
		for _, r := range t.Refs {
			if r.Table < 0 || r.Table >= n || r.Key < 0 || r.Key >= len(s[r.Table].Keys) || !refRef(t, s[r.Table], s[r.Table].Keys[r.Key], r.Cols) {
				return false
			}
		}
	}
	return true
}

func refColumns(cols []api.Column) bool {
	if len(cols) > 8 {
		return false
	}
	for i, c := range cols {
		for j := range cols {
			if i != j && c.Name == cols[j].Name {
				return false
			}
		}
		isInt := c.Kind == api.KindInt && c.Lo <= c.Hi
		isText := c.Kind == api.KindText && c.Lo == 0 && c.Hi >= 0 && c.Hi <= 100
		isBool := c.Kind == api.KindBool && c.Lo == 0 && c.Hi == 0
		if !lex.IsName(c.Name) || !isInt && !isText && !isBool {
			return false
		}
	}
	return true
}

func refRising(t api.Table, list []int) bool {
	for i, c := range list {
		if c < 0 || c >= len(t.Cols) || i > 0 && c <= list[i-1] {
			return false
		}
	}
	return true
}

func refRef(t, to api.Table, key, cols []int) bool {
	if len(cols) != len(key) {
		return false
	}
	for i, c := range cols {
		if c < 0 || c >= len(t.Cols) || t.Cols[c].Kind != to.Cols[key[i]].Kind || slices.Contains(cols[:i], c) {
			return false
		}
	}
	return true
}

// refValidData: what makes data valid for a scheme.
func refValidData(s api.Scheme, d api.Data) bool {
	if !refValid(s) || len(d) != len(s) {
		return false
	}
	for n, t := range s {
		if len(d[n]) > 1000 {
			return false
		}
		for _, r := range d[n] {
			if refRow(t, r) != api.OK {
				return false
			}
		}
	}
	for n := range s {
		if !refKeys(s[n], d[n]) || !refRefs(s, d, n) {
			return false
		}
	}
	return true
}

// refRow: the first error of a row.
func refRow(t api.Table, r api.Row) api.Errno {
	if len(r) != len(t.Cols) {
		return api.ErrWidth
	}
	for i, v := range r {
		c := t.Cols[i]
		if !value.Valid(v) || v.Kind != api.KindNull && v.Kind != c.Kind {
			return api.ErrType
		}
		if v == null {
			if c.NotNull {
				return api.ErrNull
			}
			continue
		}
		if c.Kind == api.KindInt && (v.Int < c.Lo || v.Int > c.Hi) || c.Kind == api.KindText && int64(len(v.Text)) > c.Hi {
			return api.ErrRange
		}
	}
	return api.OK
}

func refKeys(t api.Table, rows []api.Row) bool {
	for _, key := range t.Keys {
		for i, a := range rows {
			for _, b := range rows[:i] {
				same := true
				for _, c := range key {
					same = same && a[c] != null && a[c] == b[c]
				}
				if same {
					return false
				}
			}
		}
	}
	return true
}

func refRefs(s api.Scheme, d api.Data, n int) bool {
	for _, ref := range s[n].Refs {
		key := s[ref.Table].Keys[ref.Key]
		for _, a := range d[n] {
			found := slices.ContainsFunc(ref.Cols, func(c int) bool { return a[c] == null })
			for _, b := range d[ref.Table] {
				same := true
				for i, c := range ref.Cols {
					same = same && a[c] == b[key[i]]
				}
				found = found || same
			}
			if !found {
				return false
			}
		}
	}
	return true
}

// refFind: the number of a table, or -1.
func refFind(s api.Scheme, table string) int {
	for n, t := range s {
		if t.Name == table {
			return n
		}
	}
	return -1
}

// refColumn: the number of a column, or -1.
func refColumn(t api.Table, name string) int {
	for i, c := range t.Cols {
		if c.Name == name {
			return i
		}
	}
	return -1
}

// A definition is what is given to Create.
type definition struct {
	Table string
	Cols  []api.ColumnDef
	Keys  [][]string
	Refs  []api.RefDef
}

// refStands: whether all elements could stand in a valid command.
func refStands(x definition) bool {
	areNames := func(l []string) bool {
		return len(l) > 0 && !slices.ContainsFunc(l, func(s string) bool { return !lex.IsName(s) })
	}
	for _, c := range x.Cols {
		zero := c.Lo == 0 && c.Hi == 0
		isInt := c.Type == api.TypeInt && c.HasRange && c.Lo <= c.Hi
		isText := c.Type == api.TypeText && c.HasRange && c.Lo == 0 && c.Hi >= 0 && c.Hi <= 100
		if !lex.IsName(c.Name) || c.Type > 3 || !(!c.HasRange && zero || isInt || isText) {
			return false
		}
	}
	for _, k := range x.Keys {
		if !areNames(k) {
			return false
		}
	}
	for _, r := range x.Refs {
		if !lex.IsName(r.Table) || !areNames(r.Cols) || !areNames(r.Keys) {
			return false
		}
	}
	return lex.IsName(x.Table)
}

// refCreate: the new table, or the first error.
func refCreate(s api.Scheme, d api.Data, x definition) (api.Table, api.Errno) {
	t := api.Table{Name: x.Table}
	switch {
	case !refValidData(s, d) || !refStands(x):
		return api.Table{}, api.ErrArg
	case refFind(s, x.Table) >= 0:
		return api.Table{}, api.ErrTwice
	case len(s) >= 16 || len(x.Cols) > 8 || len(x.Keys) > 4 || len(x.Refs) > 4:
		return api.Table{}, api.ErrFull
	}
	for i, c := range x.Cols {
		for _, other := range x.Cols[:i] {
			if other.Name == c.Name {
				return api.Table{}, api.ErrTwice
			}
		}
		t.Cols = append(t.Cols, refColumnOf(c))
	}
	for _, k := range x.Keys {
		key, e := refNamed(t, k)
		if e != api.OK {
			return api.Table{}, e
		}
		sort.Ints(key)
		t.Keys = append(t.Keys, key)
	}
	for _, r := range x.Refs {
		made, e := refRefOf(s, t, r)
		if e != api.OK {
			return api.Table{}, e
		}
		t.Refs = append(t.Refs, made)
	}
	return t, api.OK
}

func refColumnOf(c api.ColumnDef) api.Column {
	switch {
	case c.Type == api.TypeInt && c.HasRange:
		return api.Column{Name: c.Name, Kind: api.KindInt, NotNull: c.NotNull, Lo: c.Lo, Hi: c.Hi}
	case c.Type == api.TypeInt:
		return api.Column{Name: c.Name, Kind: api.KindInt, NotNull: c.NotNull, Lo: -2147483648, Hi: 2147483647}
	case c.Type == api.TypeBig:
		return api.Column{Name: c.Name, Kind: api.KindInt, NotNull: c.NotNull, Lo: math.MinInt64, Hi: math.MaxInt64}
	case c.Type == api.TypeText && c.HasRange:
		return api.Column{Name: c.Name, Kind: api.KindText, NotNull: c.NotNull, Hi: c.Hi}
	case c.Type == api.TypeText:
		return api.Column{Name: c.Name, Kind: api.KindText, NotNull: c.NotNull, Hi: 100}
	}
	return api.Column{Name: c.Name, Kind: api.KindBool, NotNull: c.NotNull}
}

// refNamed: the columns with these names; an error, if one is missing, or else comes twice.
func refNamed(t api.Table, l []string) ([]int, api.Errno) {
	var cols []int
	e := api.OK
	for i, name := range l {
		c := refColumn(t, name)
		if c < 0 {
			return nil, api.ErrNone
		}
		if slices.Contains(l[:i], name) {
			e = api.ErrTwice
		}
		cols = append(cols, c)
	}
	return cols, e
}

func refRefOf(s api.Scheme, t api.Table, r api.RefDef) (api.Ref, api.Errno) {
	to := refFind(s, r.Table)
	if to < 0 {
		return api.Ref{}, api.ErrNone
	}
	cols, e := refNamed(t, r.Cols)
	if e != api.OK {
		return api.Ref{}, e
	}
	if len(r.Cols) != len(r.Keys) {
		return api.Ref{}, api.ErrWidth
	}
	for k, key := range s[to].Keys {
		made := api.Ref{Table: to, Key: k}
		differs := false
		for _, c := range key {
			place := slices.Index(r.Keys, s[to].Cols[c].Name)
			if place < 0 {
				break
			}
			made.Cols = append(made.Cols, cols[place])
			differs = differs || t.Cols[cols[place]].Kind != s[to].Cols[c].Kind
		}
		if len(made.Cols) != len(key) || len(key) != len(r.Keys) {
			continue
		}
		if differs {
			return api.Ref{}, api.ErrType
		}
		return made, api.OK
	}
	return api.Ref{}, api.ErrNone
}

// refInsert: the rows of a table after an insertion, or the first error.
func refInsert(s api.Scheme, d api.Data, table string, rows []api.Row) ([]api.Row, api.Errno) {
	n := refFind(s, table)
	switch {
	case !refValidData(s, d):
		return nil, api.ErrArg
	case n < 0:
		return nil, api.ErrNone
	}
	for _, r := range rows {
		if e := refRow(s[n], r); e != api.OK {
			return nil, e
		}
	}
	after := slices.Clone(d)
	after[n] = slices.Concat(d[n], rows)
	switch {
	case len(after[n]) > 1000:
		return nil, api.ErrFull
	case !refKeys(s[n], after[n]):
		return nil, api.ErrKey
	case !refRefs(s, after, n):
		return nil, api.ErrRef
	}
	return after[n], api.OK
}

// refDelete: the rows of a table after a deletion, or the first error.
func refDelete(s api.Scheme, d api.Data, table string, gone []bool) ([]api.Row, api.Errno) {
	n := refFind(s, table)
	switch {
	case !refValidData(s, d):
		return nil, api.ErrArg
	case n < 0:
		return nil, api.ErrNone
	case len(gone) != len(d[n]):
		return nil, api.ErrWidth
	}
	after := slices.Clone(d)
	after[n] = nil
	for i, r := range d[n] {
		if !gone[i] {
			after[n] = append(after[n], r)
		}
	}
	for m := range s {
		if m != n && !refRefs(s, after, m) {
			return nil, api.ErrRef
		}
	}
	return after[n], api.OK
}

// refDrop: the scheme without a table, or the first error.
func refDrop(s api.Scheme, d api.Data, table string) (api.Scheme, api.Errno) {
	n := refFind(s, table)
	switch {
	case !refValidData(s, d):
		return nil, api.ErrArg
	case n < 0:
		return nil, api.ErrNone
	}
	var left api.Scheme
	for m, t := range s {
		if m == n {
			continue
		}
		var refs []api.Ref
		for _, r := range t.Refs {
			if r.Table == n {
				return nil, api.ErrInUse
			}
			to := r.Table
			if to > n {
				to--
			}
			refs = append(refs, api.Ref{Cols: r.Cols, Table: to, Key: r.Key})
		}
		t.Refs = refs
		left = append(left, t)
	}
	return left, api.OK
}

// refIndexes: the list of a table's indexes with one more or, if without holds, one less, or the first error.
func refIndexes(s api.Scheme, table, column string, without bool) ([]int, api.Errno) {
	n := refFind(s, table)
	if !refValid(s) {
		return nil, api.ErrArg
	}
	if n < 0 || refColumn(s[n], column) < 0 {
		return nil, api.ErrNone
	}
	var list []int
	for c := range s[n].Cols {
		has := slices.Contains(s[n].Indexes, c)
		if s[n].Cols[c].Name == column {
			switch {
			case has && !without:
				return nil, api.ErrTwice
			case !has && without:
				return nil, api.ErrNone
			}
			has = !without
		}
		if has {
			list = append(list, c)
		}
	}
	return list, api.OK
}
