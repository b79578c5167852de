package parse

import (
	"math"

	"jointer/api"
)

// plain reads a query whose first token is SELECT.
func (p *parser) plain() api.Query {
	if !p.sees("SELECT") {
		p.fail(api.ErrSyntax)
	}
	return p.query()
}

func (p *parser) query() api.Query {
	q := p.body()
	if len(q.Order) > 0 || q.HasLimit { // a query in parentheses, which is all of the body
		return q
	}
	if p.takes("ORDER", "BY") {
		q.Order = list(p, p.order)
	}
	if p.takes("LIMIT") {
		q.HasLimit = true
		q.Limit = p.count(0)
		if p.takes("OFFSET") {
			q.Offset = p.count(0)
		}
	}
	return q
}

func (p *parser) body() api.Query {
	return p.operation(map[string]api.QueryKind{"UNION": api.QueryUnion, "EXCEPT": api.QueryExcept}, (*parser).meet)
}

func (p *parser) meet() api.Query {
	return p.operation(map[string]api.QueryKind{"INTERSECT": api.QueryIntersect}, (*parser).simple)
}

// operation reads operands between which set operations of one level stand.
func (p *parser) operation(operators map[string]api.QueryKind, operand func(*parser) api.Query) api.Query {
	return chain(p, operators, operand, func(left api.Query, kind api.QueryKind) api.Query {
		q := api.Query{Kind: kind, All: p.takes("ALL")}
		q.Kids = []api.Query{left, operand(p)}
		return q
	})
}

func (p *parser) simple() api.Query {
	if p.sees("(") {
		return enclosed(p, p.query)
	}
	return p.selection()
}

func (p *parser) selection() api.Query {
	p.needs("SELECT")
	q := api.Query{Distinct: p.takes("DISTINCT")}
	if !p.endsItems() {
		q.Items = list(p, p.item)
	}
	if p.takes("FROM") {
		q.From = list(p, p.source)
	}
	if p.takes("WHERE") {
		q.Where = []api.Term{p.term()}
	}
	if p.takes("GROUP", "BY") {
		q.Group = p.terms()
	}
	if p.takes("HAVING") {
		q.Having = []api.Term{p.term()}
	}
	return q
}

// endsItems returns whether something that may follow the items of a select comes next.
func (p *parser) endsItems() bool {
	return p.token().Kind == 0 || p.sees("FROM", "WHERE", "GROUP", "HAVING", "UNION", "EXCEPT", "INTERSECT", "ORDER", "LIMIT", ")", ";")
}

func (p *parser) item() api.Item {
	if p.takes("*") {
		return api.Item{Star: true}
	}
	if p.token().Kind == api.TokenName && p.word(1) == "." && p.word(2) == "*" {
		table := p.name()
		p.needs(".", "*")
		return api.Item{Star: true, Table: table}
	}
	i := api.Item{Term: p.term()}
	if p.takes("AS") {
		i.As = p.name()
	}
	return i
}

func (p *parser) order() api.Order {
	var o api.Order
	if p.token().Kind == api.TokenNumber {
		o.N = p.count(1)
	} else {
		o.Name = p.name()
	}
	o.Desc = p.takes("DESC")
	if !o.Desc {
		p.takes("ASC")
	}
	return o
}

// count reads a number of 31 bits, which must be at least lo.
func (p *parser) count(lo int64) int {
	return int(p.number("", lo, math.MaxInt32))
}

func (p *parser) source() api.Source {
	s := p.single()
	for p.sees("CROSS", "INNER", "JOIN", "LEFT", "RIGHT", "FULL") {
		s = p.join(s)
	}
	return s
}

func (p *parser) single() api.Source {
	if p.sees("(") {
		s := api.Source{Kind: api.SourceQuery, Sub: []api.Query{enclosed(p, p.query)}}
		p.needs("AS")
		s.As = p.name()
		return s
	}
	s := api.Source{Kind: api.SourceTable, Name: p.name()}
	if p.takes("AS") {
		s.As = p.name()
	}
	return s
}

// join reads a join of left with the single that follows.
func (p *parser) join(left api.Source) api.Source {
	s := api.Source{Kind: api.SourceJoin, Join: p.joinKind()}
	p.needs("JOIN")
	s.Kids = []api.Source{left, p.single()}
	if s.Join != api.JoinCross {
		p.needs("ON")
		s.On = []api.Term{p.term()}
	}
	return s
}

// joinKind reads what stands before JOIN.
func (p *parser) joinKind() api.JoinKind {
	if kind, ok := chosen(p, map[string]api.JoinKind{"LEFT": api.JoinLeft, "RIGHT": api.JoinRight, "FULL": api.JoinFull}); ok {
		p.takes("OUTER")
		return kind
	}
	if p.takes("CROSS") {
		return api.JoinCross
	}
	p.takes("INNER")
	return api.JoinInner
}
