package bag

import (
	"math/bits"

	"jointer/api"
	"jointer/value"
)

// aggregate takes the values that count, one by one, and has their aggregate.
type aggregate interface {
	add(v api.Value)
	out() api.Out
}

// aggregateOf returns an aggregate over no values.
func aggregateOf(agg api.Agg) aggregate {
	var a aggregate
	switch agg.Fn {
	case api.AggRows, api.AggCount:
		a = &number{}
	case api.AggSum:
		a = &sum{}
	case api.AggMin:
		a = &extreme{order: 1}
	case api.AggMax:
		a = &extreme{order: -1}
	case api.AggAvg:
		a = &mean{}
	}
	if agg.Distinct {
		return &once{aggregate: a, seen: map[api.Value]bool{}}
	}
	return a
}

// once hands each value to an aggregate once.
type once struct {
	aggregate
	seen map[api.Value]bool
}

func (o *once) add(v api.Value) {
	if !o.seen[v] {
		o.seen[v] = true
		o.aggregate.add(v)
	}
}

// number counts values.
type number struct {
	n int64
}

func (c *number) add(api.Value) {
	c.n++
}

func (c *number) out() api.Out {
	return api.Out{V: value.Int(c.n)}
}

// sum adds integers. Its two words are one number of 128 bits with a sign, so that no part of the sum is outside of it.
type sum struct {
	n         uint64 // how many integers
	high, low uint64
}

func (s *sum) add(v api.Value) {
	s.n++
	low, carry := bits.Add64(s.low, uint64(v.Int), 0)
	s.high, _ = bits.Add64(s.high, uint64(v.Int>>63), carry) // the upper word of an integer has nothing but its sign
	s.low = low
}

func (s *sum) out() api.Out {
	if s.n == 0 {
		return api.Out{}
	}
	total := int64(s.low)
	if s.high != uint64(total>>63) {
		return api.Out{Err: api.ErrOverflow}
	}
	return api.Out{V: value.Int(total)}
}

// mean divides a sum by the number of its integers.
type mean struct {
	sum
}

func (m *mean) out() api.Out {
	if m.n == 0 {
		return api.Out{}
	}
	high, low := m.high, m.low
	negative := int64(high) < 0
	if negative {
		high, low = opposite(high, low)
	}
	quotient, _ := bits.Div64(high, low, m.n) // of an absolute value, so that it is rounded towards zero; high is less than n
	if negative {
		quotient = -quotient
	}
	return api.Out{V: value.Int(int64(quotient))}
}

// opposite returns a number of two words with the other sign.
func opposite(high, low uint64) (uint64, uint64) {
	word, borrow := bits.Sub64(0, low, 0)
	upper, _ := bits.Sub64(0, high, borrow)
	return upper, word
}

// extreme keeps the value that is the first one in the order of values, or, if order is -1, the last one.
type extreme struct {
	order int
	v     api.Value // null before there is one, since nulls do not count
}

func (x *extreme) add(v api.Value) {
	if x.v == (api.Value{}) || x.order*value.Compare(v, x.v) < 0 {
		x.v = v
	}
}

func (x *extreme) out() api.Out {
	return api.Out{V: x.v}
}
