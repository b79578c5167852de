package scheme_test

import (
	"math/rand"
	"testing"

	"jointer/api"
)

// P7.1

// TestRandomSchemes looks at valid schemes with their data, and at changes of both.
func TestRandomSchemes(t *testing.T) {
	m := maker{rand.New(rand.NewSource(1))}
	good, bad := 0, 0
	for range 1500 {
		s := m.scheme()
		d := m.data(s)
		if !valid(t, s, d) {
			t.Fatalf("what is made is not valid: %+v, %+v", s, d)
		}
		for range 8 {
			as, ad := roomy(s), roomy(d)
			for range 1 + m.Intn(2) {
				m.change(&as)
			}
			valid(t, as, nil)
			find(t, as, pick(m, "t", "u", "a", "b", ""))
			if m.Intn(4) > 0 {
				as = s
				m.change(&ad)
			}
			if valid(t, as, ad) {
				good++
			} else {
				bad++
			}
		}
		if t.Failed() {
			return
		}
	}
	if good < 2000 || bad < 2000 {
		t.Errorf("%d valid, %d not", good, bad)
	}
}

// P7.2, P7.3, P7.4, P7.5

// TestRandomWalks goes from scheme to scheme and from data to data by what the functions return.
func TestRandomWalks(t *testing.T) {
	m := maker{rand.New(rand.NewSource(2))}
	calls = tally{}
	for range 1200 {
		s := m.scheme()
		w := walk{m, s, m.data(s)}
		for range 20 {
			w.step(t)
			if t.Failed() {
				return
			}
		}
	}
	for name, errors := range map[string][]api.Errno{
		"Create":    {api.OK, api.ErrArg, api.ErrTwice, api.ErrNone, api.ErrWidth, api.ErrType},
		"Drop":      {api.OK, api.ErrArg, api.ErrNone, api.ErrInUse},
		"AddIndex":  {api.OK, api.ErrArg, api.ErrNone, api.ErrTwice},
		"DropIndex": {api.OK, api.ErrArg, api.ErrNone},
		"Insert":    {api.OK, api.ErrArg, api.ErrNone, api.ErrWidth, api.ErrType, api.ErrNull, api.ErrRange, api.ErrKey, api.ErrRef},
		"Delete":    {api.OK, api.ErrArg, api.ErrNone, api.ErrWidth, api.ErrRef},
	} {
		for _, e := range errors {
			if calls[name][e] < 10 {
				t.Errorf("%s returned %v too seldom: %v", name, e, calls[name])
			}
		}
	}
}

// walk is a scheme with its data, from which commands lead to others.
type walk struct {
	maker
	s api.Scheme
	d api.Data
}

func (w *walk) step(t *testing.T) {
	s, d := roomy(w.s), roomy(w.d)
	switch w.Intn(20) { // now and then they are not valid
	case 0:
		w.change(&s)
	case 1:
		w.change(&d)
	}
	table, column := w.names(s)
	var e api.Errno
	switch w.Intn(16) {
	case 0, 1, 2, 3:
		x := w.definition(w.s)
		for range w.Intn(3) {
			w.change(&x)
		}
		s, d, e = create(t, s, d, x)
	case 4:
		s, d, e = drop(t, s, d, table)
	case 5:
		s, e = index(t, s, table, column, false)
	case 6:
		s, e = index(t, s, table, column, true)
	case 7, 8, 9, 10, 11:
		d, e = insert(t, s, d, table, w.rows(table)...)
	case 12, 13, 14, 15:
		d, e = remove(t, s, d, table, w.gone(s, d, table)...)
	}
	if e == api.OK && refValidData(s, d) { // an index may have been made with data that are not valid
		w.s, w.d = s, d
	}
}

// names returns the names of a table and of a column; most are there.
func (w *walk) names(s api.Scheme) (string, string) {
	if len(s) == 0 || w.Intn(10) == 0 {
		return pick(w.maker, "t", "z", ""), "a"
	}
	t := pick(w.maker, s...)
	if len(t.Cols) == 0 || w.Intn(10) == 0 {
		return t.Name, pick(w.maker, "a", "b", "z", "")
	}
	return t.Name, pick(w.maker, t.Cols...).Name
}

// rows returns rows for a table; most fit.
func (w *walk) rows(table string) []api.Row {
	n := refFind(w.s, table)
	if n < 0 {
		return nil
	}
	var rows []api.Row
	for range w.Intn(4) {
		rows = append(rows, w.row(w.s, w.d, n))
	}
	if w.Intn(8) == 0 {
		w.change(&rows)
	}
	return rows
}

// gone returns which rows of a table go; most are as many as there are.
func (w *walk) gone(s api.Scheme, d api.Data, table string) []bool {
	var gone []bool
	if n := refFind(s, table); n >= 0 && n < len(d) {
		for range d[n] {
			gone = append(gone, w.Intn(4) == 0)
		}
	}
	if w.Intn(8) == 0 {
		w.change(&gone)
	}
	return gone
}
