package parse

import (
	"math"

	"jointer/api"
	"jointer/value"
)

func node(op api.Op, kids ...api.Term) api.Term {
	return api.Term{Op: op, Kids: kids}
}

// level reads operands of a higher level, between which operators of one level stand.
func (p *parser) level(operators map[string]api.Op, operand func(*parser) api.Term) api.Term {
	return chain(p, operators, operand, func(left api.Term, op api.Op) api.Term {
		return node(op, left, operand(p))
	})
}

func (p *parser) terms() []api.Term {
	return list(p, p.term)
}

func (p *parser) term() api.Term {
	return p.level(map[string]api.Op{"OR": api.OpOr}, (*parser).and)
}

func (p *parser) and() api.Term {
	return p.level(map[string]api.Op{"AND": api.OpAnd}, (*parser).not)
}

func (p *parser) not() api.Term {
	if p.takes("NOT") {
		return node(api.OpNot, p.not())
	}
	return p.test()
}

func (p *parser) cat() api.Term {
	return p.level(map[string]api.Op{"||": api.OpConcat}, (*parser).sum)
}

func (p *parser) sum() api.Term {
	return p.level(map[string]api.Op{"+": api.OpAdd, "-": api.OpSub}, (*parser).product)
}

func (p *parser) product() api.Term {
	return p.level(map[string]api.Op{"*": api.OpMul, "/": api.OpDiv, "%": api.OpMod}, (*parser).unary)
}

func (p *parser) unary() api.Term {
	if p.sees("-") && p.ahead(1).Kind != api.TokenNumber {
		p.needs("-")
		return node(api.OpNeg, p.unary())
	}
	return p.primary()
}

func (p *parser) primary() api.Term {
	if fn, ok := chosen(p, map[string]api.AggFn{"COUNT": api.AggCount, "SUM": api.AggSum, "MIN": api.AggMin, "MAX": api.AggMax, "AVG": api.AggAvg}); ok {
		return p.aggregate(fn)
	}
	switch {
	case p.token().Kind == api.TokenName:
		return p.named()
	case p.sees("("):
		return enclosed(p, p.inner)
	case p.takes("EXISTS"):
		return api.Term{Op: api.OpExists, Sub: []api.Query{enclosed(p, p.plain)}}
	case p.takes("CASE"):
		return p.cases()
	case p.takes("COALESCE"):
		return node(api.OpCoalesce, enclosed(p, p.terms)...)
	case p.takes("LENGTH"):
		return node(api.OpLength, enclosed(p, p.term))
	}
	return api.Term{V: p.literal()}
}

// named reads a name, perhaps after that of a table.
func (p *parser) named() api.Term {
	name := p.name()
	if p.takes(".") {
		return api.Term{Op: api.OpName, Table: name, Name: p.name()}
	}
	return api.Term{Op: api.OpName, Name: name}
}

// inner reads what stands in the parentheses of a primary.
func (p *parser) inner() api.Term {
	if p.sees("SELECT") {
		return api.Term{Op: api.OpScalar, Sub: []api.Query{p.query()}}
	}
	return p.term()
}

// cases reads what follows CASE.
func (p *parser) cases() api.Term {
	p.needs("WHEN")
	t := api.Term{Op: api.OpCase}
	for more := true; more; more = p.takes("WHEN") {
		when := p.term()
		p.needs("THEN")
		t.Kids = append(t.Kids, when, p.term())
	}
	if p.takes("ELSE") {
		t.Kids = append(t.Kids, p.term())
	}
	p.needs("END")
	return t
}

// aggregate reads what follows the name of an aggregate function.
func (p *parser) aggregate(fn api.AggFn) api.Term {
	return enclosed(p, func() api.Term {
		if fn == api.AggCount && p.takes("*") {
			return api.Term{Op: api.OpAgg, Agg: api.AggRows}
		}
		t := api.Term{Op: api.OpAgg, Agg: fn, Distinct: p.takes("DISTINCT")}
		t.Kids = []api.Term{p.term()}
		return t
	})
}

func (p *parser) literal() api.Value {
	switch {
	case p.takes("NULL"):
		return api.Value{}
	case p.takes("TRUE"):
		return value.Bool(true)
	case p.takes("FALSE"):
		return value.Bool(false)
	case p.token().Kind == api.TokenText:
		return api.Value{Kind: api.KindText, Text: p.text(api.TokenText)}
	}
	return value.Int(p.integer(math.MinInt64))
}

// integer reads an integer, which must be at least lo.
func (p *parser) integer(lo int64) int64 {
	sign := ""
	if p.takes("-") {
		sign = "-"
	}
	return p.number(sign, lo, math.MaxInt64)
}
