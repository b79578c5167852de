package calc_test

import (
	"iter"
	"math/big"
	"slices"
	"strings"

	"jointer/api"
	"jointer/value"
)

// The functions of this file say what the chapter's tables and sentences say, as literally as they can be said; they may take long.

const (
	null    = api.KindNull
	integer = api.KindInt
	text    = api.KindText
	boolean = api.KindBool
)

func num(n int64) api.Out { return api.Out{V: api.Value{Kind: integer, Int: n}} }

func word(s string) api.Out { return api.Out{V: api.Value{Kind: text, Text: s}} }

func fail(e api.Errno) api.Out { return api.Out{Err: e} }

func is(b bool) api.Out {
	if b {
		return yes
	}
	return no
}

var (
	unknown = api.Out{}
	no      = api.Out{V: api.Value{Kind: boolean}}
	yes     = api.Out{V: api.Value{Kind: boolean, Int: 1}}
	div     = fail(api.ErrDivide)
	over    = fail(api.ErrOverflow)
	long    = fail(api.ErrLong)
	many    = fail(api.ErrMany)
	wrong   = fail(api.ErrArg)
)

// wrongOuts are outs that are not valid.
var wrongOuts = []api.Out{
	wrong, fail(api.ErrLimit), fail(7), fail(-1), fail(api.ErrKind), fail(api.ErrNull),
	{V: num(1).V, Err: api.ErrDivide}, {V: num(0).V, Err: api.ErrMany}, {V: no.V, Err: api.ErrLong}, {V: word("").V, Err: api.ErrOverflow}, {V: yes.V, Err: api.ErrArg}, {V: api.Value{Text: "x"}, Err: api.ErrDivide},
	{V: api.Value{Int: 1}}, {V: api.Value{Text: "x"}}, {V: api.Value{Kind: integer, Text: "1"}}, {V: api.Value{Kind: text, Int: 1}}, word(strings.Repeat("x", 101)),
	{V: api.Value{Kind: boolean, Int: 2}}, {V: api.Value{Kind: boolean, Int: -1}}, {V: api.Value{Kind: boolean, Text: "x"}}, {V: api.Value{Kind: 4}}, {V: api.Value{Kind: 255}},
}

// everyOp returns all operators, and all numbers that are none.
func everyOp() []api.Op {
	var l []api.Op
	for op := range 256 {
		l = append(l, api.Op(op))
	}
	return l
}

// lists goes through all lists of n elements of l.
func lists[T any](l []T, n int) iter.Seq[[]T] {
	return func(yield func([]T) bool) {
		total := 1
		for range n {
			total *= len(l)
		}
		for number := range total {
			list := make([]T, n)
			for i := range list {
				list[i] = l[number%len(l)]
				number /= len(l)
			}
			if !yield(list) {
				return
			}
		}
	}
}

func every[T any](l []T, is func(T) bool) bool {
	return !slices.ContainsFunc(l, func(x T) bool { return !is(x) })
}

func agree(a, b api.Kind) bool { return a == b || a == null || b == null }

// eachAgrees returns whether each of some kinds agrees with k.
func eachAgrees(kinds []api.Kind, k api.Kind) bool {
	return every(kinds, func(x api.Kind) bool { return agree(x, k) })
}

// pairwise returns whether some kinds agree pairwise.
func pairwise(kinds []api.Kind) bool {
	return every(kinds, func(k api.Kind) bool { return eachAgrees(kinds, k) })
}

// commonKind returns the common kind of some kinds that agree pairwise.
func commonKind(kinds []api.Kind) api.Kind {
	for _, k := range kinds {
		if k != null {
			return k
		}
	}
	return null
}

// caseKinds returns the kinds of the conditions and of the values of OpCase.
func caseKinds(kids []api.Kind) (conditions, values []api.Kind) {
	for i, k := range kids {
		if i%2 == 0 && i+1 < len(kids) {
			conditions = append(conditions, k)
		} else {
			values = append(values, k)
		}
	}
	return conditions, values
}

// mayHave returns whether the table has op, with n kids.
func mayHave(op api.Op, n int) bool {
	switch op {
	case api.OpNeg, api.OpLength, api.OpIsNull, api.OpIsTrue, api.OpNot:
		return n == 1
	case api.OpAdd, api.OpSub, api.OpMul, api.OpDiv, api.OpMod, api.OpConcat, api.OpEq, api.OpNe, api.OpLt, api.OpLe, api.OpGt, api.OpGe, api.OpSame, api.OpLike:
		return n == 2
	case api.OpAnd, api.OpOr:
		return true
	case api.OpCase:
		return n >= 2
	case api.OpCoalesce:
		return n >= 1
	}
	return false
}

// wantKind returns what Kind should.
func wantKind(op api.Op, kids []api.Kind) (api.Kind, api.Errno) {
	if !mayHave(op, len(kids)) || !every(kids, func(k api.Kind) bool { return k <= boolean }) {
		return 0, api.ErrArg
	}
	var ok bool
	var kind api.Kind
	switch op {
	case api.OpNeg, api.OpAdd, api.OpSub, api.OpMul, api.OpDiv, api.OpMod:
		ok, kind = eachAgrees(kids, integer), integer
	case api.OpConcat:
		ok, kind = eachAgrees(kids, text), text
	case api.OpLength:
		ok, kind = eachAgrees(kids, text), integer
	case api.OpEq, api.OpNe, api.OpLt, api.OpLe, api.OpGt, api.OpGe, api.OpSame:
		ok, kind = pairwise(kids), boolean
	case api.OpLike:
		ok, kind = eachAgrees(kids, text), boolean
	case api.OpIsNull:
		ok, kind = true, boolean
	case api.OpIsTrue, api.OpNot, api.OpAnd, api.OpOr:
		ok, kind = eachAgrees(kids, boolean), boolean
	case api.OpCase:
		conditions, values := caseKinds(kids)
		ok, kind = eachAgrees(conditions, boolean) && pairwise(values), commonKind(values)
	case api.OpCoalesce:
		ok, kind = pairwise(kids), commonKind(kids)
	}
	if !ok {
		return 0, api.ErrKind
	}
	return kind, api.OK
}

func isError(e api.Errno) bool {
	return e == api.ErrDivide || e == api.ErrOverflow || e == api.ErrLong || e == api.ErrMany
}

func isOut(o api.Out) bool {
	return o.Err == api.OK && value.Valid(o.V) || isError(o.Err) && o.V == api.Value{}
}

// fits returns whether a valid out fits a kind.
func fits(o api.Out, k api.Kind) bool {
	return o.Err != api.OK || o.V.Kind == null || o.V.Kind == k
}

// haveKinds returns whether there is a choice of kinds for the kids, beginning with chosen, that fit and with which a node has a kind.
func haveKinds(op api.Op, kids []api.Out, chosen ...api.Kind) bool {
	if len(chosen) == len(kids) {
		_, e := wantKind(op, chosen)
		return e == api.OK
	}
	for k := null; k <= boolean; k++ {
		if fits(kids[len(chosen)], k) && haveKinds(op, kids, append(slices.Clip(chosen), k)...) {
			return true
		}
	}
	return false
}

// leastOf returns the out that fails with the least error of those that fail.
func leastOf(outs []api.Out) api.Out {
	failures := slices.DeleteFunc(slices.Clone(outs), func(o api.Out) bool { return o.Err == api.OK })
	return slices.MinFunc(failures, func(a, b api.Out) int { return int(a.Err) - int(b.Err) })
}

func fails(o api.Out) bool { return o.Err != api.OK }

// wantNode returns what Node should.
func wantNode(op api.Op, kids []api.Out) api.Out {
	if !every(kids, isOut) || !haveKinds(op, kids) {
		return wrong
	}
	switch op {
	case api.OpAnd:
		return chain(kids, no, yes)
	case api.OpOr:
		return chain(kids, yes, no)
	case api.OpCase:
		return wantCase(kids)
	case api.OpCoalesce:
		for _, o := range kids {
			if fails(o) || o.V.Kind != null {
				return o
			}
		}
		return unknown
	}
	if slices.ContainsFunc(kids, fails) {
		return leastOf(kids)
	}
	first, last := kids[0], kids[len(kids)-1]
	switch op {
	case api.OpSame:
		return is(first.V.Kind == last.V.Kind && first.V.Int == last.V.Int && first.V.Text == last.V.Text)
	case api.OpIsNull:
		return is(first.V.Kind == null)
	case api.OpIsTrue:
		return is(first.V.Kind == boolean && first.V.Int == 1)
	}
	if slices.Contains(kids, unknown) {
		return unknown
	}
	return wantValue(op, first.V, last.V)
}

// chain returns the kid that comes first in the order: first, null, failing, last.
func chain(kids []api.Out, first, last api.Out) api.Out {
	switch {
	case slices.Contains(kids, first):
		return first
	case slices.Contains(kids, unknown):
		return unknown
	case slices.ContainsFunc(kids, fails):
		return leastOf(kids)
	}
	return last
}

func wantCase(kids []api.Out) api.Out {
	for i := 0; i+1 < len(kids); i += 2 {
		if fails(kids[i]) {
			return kids[i]
		}
		if kids[i] == yes {
			return kids[i+1]
		}
	}
	if len(kids)%2 == 1 {
		return kids[len(kids)-1]
	}
	return unknown
}

// wantValue returns what Node should with a null-strict operator and values that are not null.
func wantValue(op api.Op, a, b api.Value) api.Out {
	before := a.Int < b.Int || a.Text < b.Text // of one kind: one of the fields is zero in both
	same := a.Int == b.Int && a.Text == b.Text
	switch op {
	case api.OpEq:
		return is(same)
	case api.OpNe:
		return is(!same)
	case api.OpLt:
		return is(before)
	case api.OpLe:
		return is(before || same)
	case api.OpGt:
		return is(!before && !same)
	case api.OpGe:
		return is(!before)
	case api.OpNot:
		return is(a.Int == 0)
	case api.OpLike:
		return is(value.Matches(a.Text, b.Text))
	case api.OpLength:
		return num(int64(len(a.Text)))
	case api.OpConcat:
		if len(a.Text)+len(b.Text) > 100 {
			return long
		}
		return word(a.Text + b.Text)
	}
	return wantNumber(op, a.Int, b.Int)
}

func wantNumber(op api.Op, a, b int64) api.Out {
	x, y, n := big.NewInt(a), big.NewInt(b), new(big.Int)
	switch op {
	case api.OpNeg:
		n.Neg(x)
	case api.OpAdd:
		n.Add(x, y)
	case api.OpSub:
		n.Sub(x, y)
	case api.OpMul:
		n.Mul(x, y)
	case api.OpDiv, api.OpMod:
		if b == 0 {
			return div
		}
		rest := new(big.Int)
		n.QuoRem(x, y, rest)
		if op == api.OpMod {
			n = rest
		}
	}
	if !n.IsInt64() {
		return over
	}
	return num(n.Int64())
}

// isOutcome returns whether an outcome is valid.
func isOutcome(o api.Outcome) bool {
	valid := func(r api.Row) bool { return every(r, value.Valid) }
	return o.Err == api.OK && every(o.Rows, valid) || isError(o.Err) && len(o.Rows) == 0
}

func isSingle(r api.Row) bool { return len(r) == 1 }

// wantExists returns what Exists should.
func wantExists(o api.Outcome) api.Out {
	switch {
	case !isOutcome(o):
		return wrong
	case o.Err != api.OK:
		return fail(o.Err)
	}
	return is(len(o.Rows) != 0)
}

// wantScalar returns what Scalar should.
func wantScalar(o api.Outcome) api.Out {
	switch {
	case !isOutcome(o) || !every(o.Rows, isSingle):
		return wrong
	case o.Err != api.OK:
		return fail(o.Err)
	case len(o.Rows) > 1:
		return many
	case len(o.Rows) == 1:
		return api.Out{V: o.Rows[0][0]}
	}
	return unknown
}

// wantIn returns what In should.
func wantIn(x api.Out, o api.Outcome) api.Out {
	switch {
	case !isOut(x) || !isOutcome(o) || !every(o.Rows, isSingle):
		return wrong
	case x.Err != api.OK || o.Err != api.OK:
		return leastOf([]api.Out{x, fail(o.Err)})
	}
	met, hasNull := false, false
	for _, r := range o.Rows {
		met = met || r[0] == x.V
		hasNull = hasNull || r[0].Kind == null
	}
	switch {
	case x != unknown && met:
		return yes
	case len(o.Rows) != 0 && (x == unknown || hasNull):
		return unknown
	}
	return no
}
