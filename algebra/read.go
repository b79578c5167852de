package algebra

import (
	"math"
	"slices"
	"strings"

	"jointer/api"
	"jointer/value"
)

// Read returns the formed plan whose text this is.
func Read(text string) (api.Plan, api.Errno) {
	r := reader{rest: text}
	p := r.plan()
	if r.bad || r.rest != "" || !isPlan(&p) {
		return api.Plan{}, api.ErrText
	}
	return p, api.OK
}

const (
	letters  = "abcdefghijklmnopqrstuvwxyz"
	digits   = "0123456789"
	literals = "ABCDEFGHIJKLMNOPQRSTUVWXYZ-" + digits // the bytes of all literals but those of texts
)

// reader reads the text of a plan from the front. Behind an error there is nothing left, so that all lists end.
type reader struct {
	rest string
	bad  bool
}

func (r *reader) fail() { r.rest, r.bad = "", true }

// take takes something away if it comes next, and returns whether it did.
func (r *reader) take(s string) bool {
	rest, found := strings.CutPrefix(r.rest, s)
	r.rest = rest
	return found
}

// must takes something away that has to come next.
func (r *reader) must(s string) {
	if !r.take(s) {
		r.fail()
	}
}

// run takes as many of some bytes as come next.
func (r *reader) run(bytes string) string {
	return r.first(len(r.rest) - len(strings.TrimLeft(r.rest, bytes)))
}

// first takes the next n bytes.
func (r *reader) first(n int) string {
	taken := r.rest[:n]
	r.rest = r.rest[n:]
	return taken
}

// place returns the place of a word among others.
func (r *reader) place(words []string, word string) int {
	at := slices.Index(words, word)
	if at < 0 {
		r.fail()
		return 0
	}
	return at
}

// some reads a list that is not empty, with something between each two elements.
func some[T any](r *reader, between string, read func() T) []T {
	elements := []T{read()}
	for r.take(between) {
		elements = append(elements, read())
	}
	return elements
}

// upTo reads a list, and what ends it.
func upTo[T any](r *reader, between, end string, read func() T) []T {
	if r.take(end) {
		return nil
	}
	elements := some(r, between, read)
	r.must(end)
	return elements
}

// after reads a list that is not empty if something comes before it.
func after[T any](r *reader, before, between string, read func() T) []T {
	if !r.take(before) {
		return nil
	}
	return some(r, between, read)
}

func (r *reader) plan() api.Plan {
	words := planWords
	p := api.Plan{Op: api.PlanOp(r.place(words[:], r.run(letters)))}
	s := shapes[p.Op]
	if s.has != noFields {
		r.must("[")
		r.fields(s.has, &p)
	}
	if s.kids > 0 {
		r.must("(")
		p.Kids = upTo(r, ", ", ")", r.plan)
	}
	return p
}

// fields reads what stands in the square brackets of a plan, and the closing one.
func (r *reader) fields(has fields, p *api.Plan) {
	switch has {
	case tableField:
		p.Table = r.number()
		r.must("]")
	case rowFields:
		p.Kinds = upTo(r, " ", ":", r.kind)
		p.Rows = after(r, " ", ", ", r.row)
		r.must("]")
	case condFields:
		p.Conds = upTo(r, ", ", "]", r.expr)
	case exprFields:
		p.Exprs = upTo(r, ", ", "]", r.expr)
	case groupFields:
		p.Cols = upTo(r, " ", ":", r.number)
		p.Aggs = after(r, " ", ", ", r.agg)
		r.must("]")
	case keyFields:
		p.Keys = upTo(r, ", ", "]", r.key)
	case limitFields:
		p.Keys = upTo(r, ", ", "; ", r.key)
		p.From = r.number()
		r.must("; ")
		p.Count = r.number()
		r.must("]")
	}
}

// number reads a number of a formed plan.
func (r *reader) number() int {
	v, e := value.Read(r.run(digits)) // it has no leading zeros
	if e != api.OK || v.Int > math.MaxInt32 {
		r.fail()
	}
	return int(v.Int)
}

func (r *reader) kind() api.Kind {
	words := kindWords
	return api.Kind(r.place(words[:], r.run(letters)))
}

func (r *reader) row() api.Row {
	r.must("(")
	return upTo(r, ", ", ")", r.literal)
}

func (r *reader) literal() api.Value {
	text := r.run(literals)
	if text == "" {
		text = r.first(r.quoted())
	}
	v, e := value.Read(text)
	if e != api.OK {
		r.fail()
	}
	return v
}

// quoted returns the number of bytes of the text literal that comes next: of all that is left, if it does not end.
func (r *reader) quoted() int {
	n := 0
	for strings.HasPrefix(r.rest[n:], "'") { // within a text the byte ' is doubled
		_, behind, _ := strings.Cut(r.rest[n+1:], "'")
		n = len(r.rest) - len(behind)
	}
	return n
}

func (r *reader) agg() api.Agg {
	words := aggWords
	a := api.Agg{Fn: api.AggFn(r.place(words[:], r.run(letters)))}
	if a.Fn == api.AggRows {
		return a
	}
	a.Distinct = r.take(" distinct")
	r.must(" ")
	a.Col = r.number()
	return a
}

func (r *reader) key() api.Key {
	n := r.number()
	return api.Key{Col: n, Desc: r.take(" desc")}
}

func (r *reader) expr() api.Expr {
	word := r.run(letters)
	switch word {
	case "":
		return api.Expr{V: r.literal()}
	case "c":
		return r.column()
	}
	words := exprWords
	e := api.Expr{Op: api.Op(r.place(words[:], word))}
	switch e.Op {
	case api.OpExists, api.OpScalar:
		e.Sub = r.sub()
	case api.OpIn:
		r.must("(")
		e.Kids = []api.Expr{r.expr()}
		r.must(", ")
		e.Sub = r.sub()
		r.must(")")
	default:
		r.must("(")
		e.Kids = upTo(r, ", ", ")", r.expr)
	}
	return e
}

// column reads a column behind its letter.
func (r *reader) column() api.Expr {
	e := api.Expr{Op: api.OpColumn, N: r.number()}
	if r.take("^") {
		e.Up = r.number()
		if e.Up == 0 { // which is not written
			r.fail()
		}
	}
	return e
}

func (r *reader) sub() []api.Plan {
	r.must("{")
	p := r.plan()
	r.must("}")
	return []api.Plan{p}
}
