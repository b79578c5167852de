package parse

import (
	"math"

	"jointer/api"
)

// names reads a list of names in parentheses.
func (p *parser) names() []string {
	return enclosed(p, func() []string { return list(p, p.name) })
}

func (p *parser) command() api.Command {
	switch {
	case p.takes("EXPLAIN"):
		return api.Command{Kind: api.CommandExplain, Query: []api.Query{p.query()}}
	case p.takes("CREATE"):
		return p.create()
	case p.takes("DROP"):
		return p.drop()
	case p.takes("INSERT", "INTO"):
		return p.insert()
	case p.takes("DELETE", "FROM"):
		return p.delete()
	case p.takes("ANALYZE"):
		return p.analyze()
	}
	return api.Command{Kind: api.CommandQuery, Query: []api.Query{p.query()}}
}

// create reads what follows CREATE.
func (p *parser) create() api.Command {
	if !p.takes("TABLE") {
		return p.index(api.CommandCreateIndex)
	}
	c := api.Command{Kind: api.CommandCreateTable, Table: p.name()}
	for _, part := range enclosedList(p, p.part) {
		c.Cols = append(c.Cols, part.Cols...)
		c.Keys = append(c.Keys, part.Keys...)
		c.Refs = append(c.Refs, part.Refs...)
	}
	return c
}

// drop reads what follows DROP.
func (p *parser) drop() api.Command {
	if p.takes("TABLE") {
		return api.Command{Kind: api.CommandDropTable, Table: p.name()}
	}
	return p.index(api.CommandDropIndex)
}

// index reads the word INDEX and what follows it.
func (p *parser) index(kind api.CommandKind) api.Command {
	p.needs("INDEX", "ON")
	c := api.Command{Kind: kind, Table: p.name()}
	c.Column = enclosed(p, p.name)
	return c
}

// insert reads what follows INSERT INTO.
func (p *parser) insert() api.Command {
	c := api.Command{Kind: api.CommandInsert, Table: p.name()}
	p.needs("VALUES")
	c.Rows = list(p, p.row)
	return c
}

func (p *parser) row() api.Row {
	return enclosedList(p, p.literal)
}

// delete reads what follows DELETE FROM.
func (p *parser) delete() api.Command {
	c := api.Command{Kind: api.CommandDelete, Table: p.name()}
	if p.takes("WHERE") {
		c.Where = []api.Term{p.term()}
	}
	return c
}

// analyze reads what follows ANALYZE.
func (p *parser) analyze() api.Command {
	c := api.Command{Kind: api.CommandAnalyze}
	if p.token().Kind == api.TokenName {
		c.Table = p.name()
	}
	return c
}

// part reads a part of a table, and returns a command that has this part alone.
func (p *parser) part() api.Command {
	switch {
	case p.takes("KEY"):
		return api.Command{Keys: [][]string{p.names()}}
	case p.takes("FOREIGN", "KEY"):
		r := api.RefDef{Cols: p.names()}
		p.needs("REFERENCES")
		r.Table = p.name()
		r.Keys = p.names()
		return api.Command{Refs: []api.RefDef{r}}
	}
	return api.Command{Cols: []api.ColumnDef{p.column()}}
}

func (p *parser) column() api.ColumnDef {
	c := api.ColumnDef{Name: p.name()}
	switch {
	case p.takes("INT"):
		c.Type = api.TypeInt
		p.bounds(&c)
	case p.takes("TEXT"):
		c.Type = api.TypeText
		p.length(&c)
	case p.takes("BIGINT"):
		c.Type = api.TypeBig
	default:
		p.needs("BOOL")
		c.Type = api.TypeBool
	}
	c.NotNull = p.takes("NOT", "NULL")
	return c
}

// bounds reads the bounds of a column of the type INT, if there are any.
func (p *parser) bounds(c *api.ColumnDef) {
	if p.takes("(") {
		c.HasRange = true
		c.Lo = p.integer(math.MinInt64)
		p.needs("TO")
		c.Hi = p.integer(c.Lo)
		p.needs(")")
	}
}

// length reads the length of a column of the type TEXT, if there is one.
func (p *parser) length(c *api.ColumnDef) {
	if p.takes("(") {
		c.HasRange = true
		c.Hi = p.number("", 0, api.MaxText)
		p.needs(")")
	}
}
