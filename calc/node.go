package calc

import (
	"slices"

	"jointer/api"
	"jointer/value"
)

// Node returns what a node comes to whose kids come to some outs, or an out with ErrArg.
func Node(op api.Op, kids []api.Out) api.Out {
	// An out that fails, like null, has the zero Value, and fits KindNull, which agrees with every kind: if any kinds are accepted, those of the values are.
	if _, e := Kind(op, kindsOf(kids)); e != api.OK || !areValid(kids) {
		return failing(api.ErrArg)
	}
	switch op {
	case api.OpAnd:
		return and(kids)
	case api.OpOr:
		return or(kids)
	case api.OpCase:
		return choose(kids)
	case api.OpCoalesce:
		return firstKnown(kids)
	}
	return strict(op, kids)
}

func kindsOf(outs []api.Out) []api.Kind {
	kinds := make([]api.Kind, len(outs))
	for i, o := range outs {
		kinds[i] = o.V.Kind
	}
	return kinds
}

// choose returns the out of OpCase.
func choose(kids []api.Out) api.Out {
	for part := range slices.Chunk(kids, 2) {
		if len(part) == 1 {
			return part[0]
		}
		condition := part[0]
		if condition.Err != api.OK {
			return condition
		}
		if condition == truth(true) {
			return part[1]
		}
	}
	return null()
}

// firstKnown returns the out of OpCoalesce.
func firstKnown(kids []api.Out) api.Out {
	i := slices.IndexFunc(kids, func(o api.Out) bool { return o != null() })
	if i < 0 {
		return null()
	}
	return kids[i]
}

// strict returns what a node comes to that fails whenever a kid fails.
func strict(op api.Op, kids []api.Out) api.Out {
	if e := least(kids...); e != api.OK {
		return failing(e)
	}
	first, last := kids[0].V, kids[len(kids)-1].V
	switch op {
	case api.OpSame:
		return truth(first == last)
	case api.OpIsNull:
		return truth(first == api.Value{})
	case api.OpIsTrue:
		return truth(first == value.Bool(true))
	}
	if slices.Contains(kids, null()) {
		return null()
	}
	return nullStrict(op, first, last)
}

// nullStrict returns what a null-strict node comes to whose first and last kid, which may be one, have these values, none of them null.
func nullStrict(op api.Op, first, last api.Value) api.Out {
	order := value.Compare(first, last)
	switch op {
	case api.OpEq:
		return truth(order == 0)
	case api.OpNe:
		return truth(order != 0)
	case api.OpLt:
		return truth(order < 0)
	case api.OpLe:
		return truth(order <= 0)
	case api.OpGt:
		return truth(order > 0)
	case api.OpGe:
		return truth(order >= 0)
	case api.OpNot:
		return not(api.Out{V: first})
	case api.OpLike:
		return truth(value.Matches(first.Text, last.Text))
	case api.OpLength:
		return api.Out{V: value.Int(int64(len(first.Text)))}
	case api.OpConcat:
		joined, e := value.Text(first.Text + last.Text)
		return api.Out{V: joined, Err: e}
	}
	return compute(op, first.Int, last.Int)
}

// compute returns what a node of arithmetic comes to. With OpNeg both integers are that of its only kid.
func compute(op api.Op, first, last int64) api.Out {
	arithmetic := map[api.Op]func(a, b int64) (int64, api.Errno){
		api.OpNeg: func(_, b int64) (int64, api.Errno) { return value.Sub(0, b) },
		api.OpAdd: value.Add,
		api.OpSub: value.Sub,
		api.OpMul: value.Mul,
		api.OpDiv: value.Div,
		api.OpMod: value.Mod,
	}
	n, e := arithmetic[op](first, last)
	if e != api.OK {
		return failing(e)
	}
	return api.Out{V: value.Int(n)}
}
