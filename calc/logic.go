package calc

import (
	"cmp"

	"jointer/api"
	"jointer/value"
)

// The places of outs in the chain of AND: a node comes to the one of its kids whose place is the first.
const (
	placeFalse = iota
	placeNull
	placeFailing
	placeTrue
)

func place(condition api.Out) int {
	switch condition {
	case truth(false):
		return placeFalse
	case null():
		return placeNull
	case truth(true):
		return placeTrue
	}
	return placeFailing
}

// and returns the out of OpAnd.
func and(kids []api.Out) api.Out {
	first := truth(true)
	for _, kid := range kids {
		if cmp.Or(cmp.Compare(place(kid), place(first)), cmp.Compare(kid.Err, first.Err)) < 0 {
			first = kid
		}
	}
	return first
}

// or returns the out of OpOr, whose chain is that of AND with true and false exchanged.
func or(kids []api.Out) api.Out {
	opposite := make([]api.Out, len(kids))
	for i, kid := range kids {
		opposite[i] = not(kid)
	}
	return not(and(opposite))
}

// not exchanges true and false.
func not(condition api.Out) api.Out {
	if condition.V.Kind != api.KindBool {
		return condition
	}
	return truth(condition.V == value.Bool(false))
}

// Conds returns what a list of conditions comes to.
func Conds(outs []api.Out) api.Out {
	return Node(api.OpAnd, outs)
}
