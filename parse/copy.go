package parse

import (
	"slices"

	"jointer/api"
)

// copier copies trees of which parts may share memory, so that no parts of a copy do, and counts the nodes of the copies. It ends at the first node above MaxNodes: with hundreds of BETWEEN within each other a tree could not be gone through.
type copier struct {
	nodes int
}

// add counts n nodes.
func (c *copier) add(n int) {
	c.nodes += n
	if c.nodes > api.MaxNodes {
		panic(fault{api.ErrLimit, 0})
	}
}

// each returns the copies of the elements of a list.
func each[T any](l []T, copied func(T) T) []T {
	l = slices.Clone(l)
	for i, x := range l {
		l[i] = copied(x)
	}
	return l
}

func (c *copier) term(t api.Term) api.Term {
	c.add(1)
	t.Kids = each(t.Kids, c.term)
	t.Sub = each(t.Sub, c.query)
	return t
}

func (c *copier) query(q api.Query) api.Query {
	c.add(1 + len(q.Order))
	q.Kids = each(q.Kids, c.query)
	q.Items = each(q.Items, c.item)
	q.From = each(q.From, c.source)
	q.Where = each(q.Where, c.term)
	q.Group = each(q.Group, c.term)
	q.Having = each(q.Having, c.term)
	q.Order = slices.Clone(q.Order)
	return q
}

func (c *copier) item(i api.Item) api.Item {
	c.add(1)
	if !i.Star {
		i.Term = c.term(i.Term)
	}
	return i
}

func (c *copier) source(s api.Source) api.Source {
	c.add(1)
	s.On = each(s.On, c.term)
	s.Kids = each(s.Kids, c.source)
	s.Sub = each(s.Sub, c.query)
	return s
}

// command copies what may share memory in a command: its query and its term.
func (c *copier) command(x api.Command) api.Command {
	c.add(1 + len(x.Cols))
	for _, key := range x.Keys {
		c.add(len(key))
	}
	for _, ref := range x.Refs {
		c.add(len(ref.Cols) + len(ref.Keys))
	}
	for _, row := range x.Rows {
		c.add(len(row))
	}
	x.Query = each(x.Query, c.query)
	x.Where = each(x.Where, c.term)
	return x
}
