package parse

import "jointer/api"

func (p *parser) test() api.Term {
	left := p.cat()
	comparisons := map[string]api.Op{"=": api.OpEq, "<>": api.OpNe, "<": api.OpLt, "<=": api.OpLe, ">": api.OpGt, ">=": api.OpGe}
	if op, ok := chosen(p, comparisons); ok {
		return node(op, left, p.cat())
	}
	switch {
	case p.takes("IS"):
		return p.is(left)
	case p.takes("NOT"):
		return node(api.OpNot, p.among(left))
	case p.sees("LIKE", "BETWEEN", "IN"):
		return p.among(left)
	}
	return left
}

// is reads what follows IS.
func (p *parser) is(left api.Term) api.Term {
	not := p.takes("NOT")
	var t api.Term
	switch {
	case p.takes("NULL"):
		t = node(api.OpIsNull, left)
	case p.takes("TRUE"):
		t = node(api.OpIsTrue, left)
	default:
		p.needs("DISTINCT", "FROM")
		t = node(api.OpSame, left, p.cat())
		not = !not
	}
	if not {
		return node(api.OpNot, t)
	}
	return t
}

// among reads one of the tests before which NOT may stand. Its tree may contain left several times, with the same memory; at the end, a copier parts them.
func (p *parser) among(left api.Term) api.Term {
	switch {
	case p.takes("LIKE"):
		return node(api.OpLike, left, p.cat())
	case p.takes("BETWEEN"):
		least := node(api.OpGe, left, p.cat())
		p.needs("AND")
		return node(api.OpAnd, least, node(api.OpLe, left, p.cat()))
	}
	p.needs("IN")
	return enclosed(p, func() api.Term {
		if p.sees("SELECT") {
			return api.Term{Op: api.OpIn, Kids: []api.Term{left}, Sub: []api.Query{p.query()}}
		}
		return oneOf(left, p.terms())
	})
}

// oneOf returns that left is equal to one of some terms.
func oneOf(left api.Term, l []api.Term) api.Term {
	t := node(api.OpEq, left, l[0])
	for _, x := range l[1:] {
		t = node(api.OpOr, t, node(api.OpEq, left, x))
	}
	return t
}
