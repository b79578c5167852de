package scheme_test

import (
	"fmt"
	"math"
	"math/rand"
	"reflect"
	"slices"
	"strings"

	"jointer/api"
)

// maker makes schemes, data and definitions that are valid, and changes of them, most of which are not.
type maker struct {
	*rand.Rand
}

// pick returns an element of a list.
func pick[T any](m maker, l ...T) T { return l[m.Intn(len(l))] }

// rising returns some of the numbers below n, in order.
func (m maker) rising(n int) []int {
	var l []int
	for i := range n {
		if m.Intn(2) == 0 {
			l = append(l, i)
		}
	}
	return l
}

// shuffled returns up to n elements of a list, in any order.
func shuffled[T any](m maker, l []T, n int) []T {
	made := slices.Clone(l)
	m.Shuffle(len(made), func(i, j int) { made[i], made[j] = made[j], made[i] })
	return made[:min(n, len(made))]
}

func (m maker) column(name string) api.Column {
	c := api.Column{Name: name, NotNull: m.Intn(4) == 0, Kind: api.KindInt}
	switch m.Intn(5) {
	case 0:
		c.Lo, c.Hi = math.MinInt64, math.MaxInt64
	case 1, 2:
		c.Lo = int64(m.Intn(3) - 1)
		c.Hi = c.Lo + int64(m.Intn(3))
	case 3:
		c.Kind, c.Hi = api.KindText, int64(pick(m, 0, 1, 2, 100))
	case 4:
		c.Kind = api.KindBool
	}
	return c
}

// scheme makes a valid scheme.
func (m maker) scheme() api.Scheme {
	var s api.Scheme
	for _, name := range shuffled(m, names("t", "u", "v", "w", "a"), m.Intn(5)) {
		t := api.Table{Name: name}
		for _, name := range shuffled(m, names("a", "b", "c", "d", "e", "f", "g", "t"), pick(m, 0, 1, 2, 3, 3, 8)) {
			t.Cols = append(t.Cols, m.column(name))
		}
		for range m.Intn(4) {
			if key := m.rising(len(t.Cols)); len(key) > 0 {
				t.Keys = append(t.Keys, key)
			}
		}
		for range m.Intn(4) {
			if r, ok := m.ref(s, t); ok {
				t.Refs = append(t.Refs, r)
			}
		}
		t.Indexes = m.rising(len(t.Cols))
		s = append(s, t)
	}
	return s
}

// ref makes a reference of a table to a key of one before it, if there are columns for it.
func (m maker) ref(s api.Scheme, t api.Table) (api.Ref, bool) {
	if len(s) == 0 {
		return api.Ref{}, false
	}
	r := api.Ref{Table: m.Intn(len(s))}
	to := s[r.Table]
	if len(to.Keys) == 0 {
		return api.Ref{}, false
	}
	r.Key = m.Intn(len(to.Keys))
	for _, c := range to.Keys[r.Key] {
		var fit []int
		for i := range t.Cols {
			if t.Cols[i].Kind == to.Cols[c].Kind && !slices.Contains(r.Cols, i) {
				fit = append(fit, i)
			}
		}
		if len(fit) == 0 {
			return api.Ref{}, false
		}
		r.Cols = append(r.Cols, pick(m, fit...))
	}
	return r, true
}

func (m maker) value(c api.Column) api.Value {
	switch k := m.Intn(9); {
	case k == 0:
		return null
	case k == 1:
		return pick(m, num(0), num(1), word(""), word("b"), yes)
	case c.Kind == api.KindInt:
		return num(int64(m.Intn(4) - 1))
	case c.Kind == api.KindText:
		return word(pick(m, "", "a", "b", "ab", "''%"))
	}
	return pick(m, no, yes)
}

// row makes a row of a table; most of its references hold.
func (m maker) row(s api.Scheme, d api.Data, n int) api.Row {
	var r api.Row
	for _, c := range s[n].Cols {
		r = append(r, m.value(c))
	}
	for _, ref := range s[n].Refs {
		if len(d[ref.Table]) == 0 || m.Intn(4) == 0 {
			continue
		}
		other := pick(m, d[ref.Table]...)
		for i, c := range s[ref.Table].Keys[ref.Key] {
			r[ref.Cols[i]] = other[c]
		}
	}
	return r
}

// data makes data that are valid for a scheme.
func (m maker) data(s api.Scheme) api.Data {
	d := make(api.Data, len(s))
	for n := range s {
		for range m.Intn(12) {
			rows := d[n]
			d[n] = append(slices.Clone(rows), m.row(s, d, n))
			if !refValidData(s, d) {
				d[n] = rows
			}
		}
	}
	return d
}

// columnDef makes a column as it is written.
func (m maker) columnDef(name string) api.ColumnDef {
	d := api.ColumnDef{Name: name, Type: api.TypeName(m.Intn(4)), NotNull: m.Intn(4) == 0, HasRange: m.Intn(2) == 0}
	switch {
	case d.Type == api.TypeInt && d.HasRange:
		d.Lo = int64(m.Intn(3) - 1)
		d.Hi = d.Lo + int64(m.Intn(3))
	case d.Type == api.TypeText && d.HasRange:
		d.Hi = int64(pick(m, 0, 1, 100))
	default:
		d.HasRange = false
	}
	return d
}

// definition makes a table as it is written; most can come behind the tables of a scheme.
func (m maker) definition(s api.Scheme) definition {
	x := definition{Table: pick(m, "t", "u", "v", "w", "x", "y", "z", "a1", "b1", "c1")}
	cols := shuffled(m, names("a", "b", "c", "d", "e"), m.Intn(6))
	for _, name := range cols {
		x.Cols = append(x.Cols, m.columnDef(name))
	}
	for range m.Intn(3) {
		if key := shuffled(m, cols, 1+m.Intn(3)); len(key) > 0 {
			x.Keys = append(x.Keys, key)
		}
	}
	for range m.Intn(3) {
		if r := m.refDef(s, cols); len(r.Cols) > 0 {
			x.Refs = append(x.Refs, r)
		}
	}
	return x
}

// refDef makes a reference to a key of a table, if there is one, with any columns of the same number.
func (m maker) refDef(s api.Scheme, cols []string) api.RefDef {
	if len(s) == 0 {
		return api.RefDef{}
	}
	to := pick(m, s...)
	if len(to.Keys) == 0 {
		return api.RefDef{}
	}
	r := api.RefDef{Table: to.Name}
	for _, c := range shuffled(m, pick(m, to.Keys...), 8) {
		r.Keys = append(r.Keys, to.Cols[c].Name)
	}
	r.Cols = shuffled(m, cols, len(r.Keys))
	return r
}

// change changes one place of what p points to, whichever it is.
func (m maker) change(p any) {
	places := placesOf(reflect.ValueOf(p).Elem())
	switch v := pick(m, places...); v.Kind() {
	case reflect.Slice:
		m.changeList(v)
	case reflect.Int, reflect.Int64:
		v.SetInt(pick(m, v.Int()+1, v.Int()-1, -1, 0, 1, 2, 3, 8, 100, 101))
	case reflect.Uint8:
		v.SetUint(uint64(m.Intn(5)))
	case reflect.Bool:
		v.SetBool(!v.Bool())
	case reflect.String:
		v.SetString(pick(m, "", "a", "b", "c", "d", "t", "u", "A", "1a", "from", "a b", strings.Repeat("a", 20), strings.Repeat("a", 21), strings.Repeat("a", 101)))
	default:
		panic(fmt.Sprint(v.Kind()))
	}
}

// placesOf returns all that can be changed.
func placesOf(v reflect.Value) []reflect.Value {
	var l []reflect.Value
	switch v.Kind() {
	case reflect.Slice:
		l = append(l, v)
		for i := range v.Len() {
			l = append(l, placesOf(v.Index(i))...)
		}
	case reflect.Struct:
		for i := range v.NumField() {
			l = append(l, placesOf(v.Field(i))...)
		}
	default:
		l = append(l, v)
	}
	return l
}

// changeList leaves out an element, repeats one, changes their order, or adds an empty one.
func (m maker) changeList(v reflect.Value) {
	n := v.Len()
	if n == 0 || m.Intn(4) == 0 {
		v.Set(reflect.Append(v, reflect.Zero(v.Type().Elem())))
		return
	}
	i, j := m.Intn(n), m.Intn(n)
	x, y := reflect.New(v.Type().Elem()).Elem(), reflect.New(v.Type().Elem()).Elem()
	x.Set(v.Index(i))
	y.Set(v.Index(j))
	switch m.Intn(3) {
	case 0:
		v.Set(reflect.AppendSlice(v.Slice3(0, i, i), v.Slice(i+1, n)))
	case 1:
		v.Set(reflect.Append(v, x))
	case 2:
		v.Index(i).Set(y)
		v.Index(j).Set(x)
	}
}
