package calc

import (
	"math"
	"slices"

	"jointer/api"
)

// signature is what an operator asks of its kids: their number, and the kind with which all of theirs agree (KindNull: they agree with one another alone); and the kind of its node (KindNull: the common kind of its values).
type signature struct {
	fewest, most int
	kids, node   api.Kind
}

// signatureOf returns the signature of an operator, if its nodes come to something by their kids alone. That of OpCase is about its values.
func signatureOf(op api.Op) (signature, bool) {
	const unbounded = math.MaxInt
	switch op {
	case api.OpNeg:
		return signature{1, 1, api.KindInt, api.KindInt}, true
	case api.OpAdd, api.OpSub, api.OpMul, api.OpDiv, api.OpMod:
		return signature{2, 2, api.KindInt, api.KindInt}, true
	case api.OpConcat:
		return signature{2, 2, api.KindText, api.KindText}, true
	case api.OpLength:
		return signature{1, 1, api.KindText, api.KindInt}, true
	case api.OpEq, api.OpNe, api.OpLt, api.OpLe, api.OpGt, api.OpGe, api.OpSame:
		return signature{2, 2, api.KindNull, api.KindBool}, true
	case api.OpLike:
		return signature{2, 2, api.KindText, api.KindBool}, true
	case api.OpIsNull:
		return signature{1, 1, api.KindNull, api.KindBool}, true
	case api.OpIsTrue, api.OpNot:
		return signature{1, 1, api.KindBool, api.KindBool}, true
	case api.OpAnd, api.OpOr:
		return signature{0, unbounded, api.KindBool, api.KindBool}, true
	case api.OpCase:
		return signature{2, unbounded, api.KindNull, api.KindNull}, true
	case api.OpCoalesce:
		return signature{1, unbounded, api.KindNull, api.KindNull}, true
	}
	return signature{}, false
}

// Kind returns the kind of a node with kids of some kinds, or an error.
func Kind(op api.Op, kids []api.Kind) (api.Kind, api.Errno) {
	s, ok := signatureOf(op)
	isNone := func(k api.Kind) bool { return k > api.KindBool }
	if !ok || len(kids) < s.fewest || len(kids) > s.most || slices.ContainsFunc(kids, isNone) {
		return 0, api.ErrArg
	}
	var conditions []api.Kind
	values := kids
	if op == api.OpCase {
		conditions, values = partCase(kids)
	}
	_, areConditions := common(api.KindBool, conditions...)
	kind, agree := common(s.kids, values...)
	if !areConditions || !agree {
		return 0, api.ErrKind
	}
	if s.node != api.KindNull {
		kind = s.node
	}
	return kind, api.OK
}

// partCase parts the kids of OpCase into its conditions and its values.
func partCase(kids []api.Kind) (conditions, values []api.Kind) {
	for part := range slices.Chunk(kids, 2) {
		last := len(part) - 1
		conditions = append(conditions, part[:last]...)
		values = append(values, part[last])
	}
	return conditions, values
}

// common returns the common kind of some kinds, if they agree pairwise.
func common(kind api.Kind, others ...api.Kind) (api.Kind, bool) {
	for _, k := range others {
		if kind == api.KindNull {
			kind = k
		}
		if k != api.KindNull && k != kind {
			return 0, false
		}
	}
	return kind, true
}
