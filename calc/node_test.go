package calc_test

import (
	"slices"
	"strings"
	"testing"

	"jointer/api"
	"jointer/calc"
)

// P5.2

// checkNode checks a node, and the list of conditions, whose kids come to some outs.
func checkNode(t *testing.T, op api.Op, kids ...api.Out) {
	t.Helper()
	given := slices.Clone(kids)
	if o, want := calc.Node(op, given), wantNode(op, kids); o != want {
		t.Errorf("Node(%d, %v) is %v, want %v", op, kids, o, want)
	}
	if op == api.OpAnd {
		if o, want := calc.Conds(given), wantNode(op, kids); o != want {
			t.Errorf("Conds(%v) is %v, want %v", kids, o, want)
		}
	}
	if !slices.Equal(given, kids) {
		t.Errorf("Node(%d, %v) has changed the outs: %v", op, kids, given)
	}
}

// some has valid outs of all kinds.
var some = []api.Out{unknown, no, yes, num(0), num(7), word(""), word("a%"), div, over, long, many}

func TestNodesOfAllShortLists(t *testing.T) {
	for _, op := range everyOp() {
		for n := range 4 {
			for kids := range lists(some, n) {
				checkNode(t, op, kids...)
			}
		}
	}
}

func TestNodesOfLongerLists(t *testing.T) {
	for _, op := range []api.Op{api.OpAnd, api.OpOr, api.OpCase, api.OpCoalesce} {
		for kids := range lists(some, 4) {
			checkNode(t, op, kids...)
		}
		for _, l := range [][]api.Out{{unknown, no, yes, div, long}, {unknown, no, yes, num(1), over}} {
			for n := 5; n <= 6; n++ {
				for kids := range lists(l, n) {
					checkNode(t, op, kids...)
				}
			}
		}
	}
}

// TestAndOrAreSymmetric checks that the order of the kids never counts.
func TestAndOrAreSymmetric(t *testing.T) {
	for kids := range lists([]api.Out{unknown, no, yes, div, many}, 5) {
		sorted := slices.SortedFunc(slices.Values(kids), func(a, b api.Out) int {
			return strings.Compare(key(a), key(b))
		})
		for _, op := range []api.Op{api.OpAnd, api.OpOr} {
			if a, b := calc.Node(op, kids), calc.Node(op, sorted); a != b {
				t.Errorf("Node(%d, %v) is %v, but %v for %v", op, kids, a, b, sorted)
			}
		}
	}
}

// key returns a text by which outs are sorted.
func key(o api.Out) string {
	return string([]byte{byte(o.Err), byte(o.V.Kind), byte(o.V.Int)})
}

func TestOutsThatAreNotValid(t *testing.T) {
	for _, op := range everyOp() {
		for _, x := range wrongOuts {
			checkNode(t, op, x)
			for _, o := range some {
				checkNode(t, op, o, x)
				checkNode(t, op, x, o)
				checkNode(t, op, yes, o, x) // one at which CASE and COALESCE do not look
				checkNode(t, op, no, x, o)
				checkNode(t, op, o, x, o, yes)
			}
		}
	}
	for e := api.Errno(-300); e <= 300; e++ {
		checkNode(t, api.OpIsNull, fail(e))
		checkNode(t, api.OpAnd, no, fail(e))
		checkNode(t, api.OpCoalesce, num(1), fail(e))
		checkNode(t, api.OpCase, yes, num(1), fail(e))
	}
}

// integers are integers around the powers of two, and some others.
func integers() []api.Out {
	l := []api.Out{num(0), num(3), num(-3), num(7), num(-7), num(10), num(3037000499), num(3037000500), num(-3037000500)}
	for _, k := range []int{0, 1, 2, 15, 31, 32, 33, 61, 62, 63} {
		n := int64(1) << k
		l = append(l, num(n), num(n-1), num(n+1), num(-n), num(-n-1), num(1-n))
	}
	return l
}

func texts() []api.Out {
	var l []api.Out
	for _, s := range []string{"", "\x00", "a", "a\x00", "aa", "ab", "abc", "b", "B", "%", "_", "a%", "%a", "_b_", "__", "'", "\x7f", "\x80", "é", "\xff"} {
		l = append(l, word(s))
	}
	for _, n := range []int{49, 50, 51, 99, 100} {
		l = append(l, word(strings.Repeat("x", n)), word(strings.Repeat("%", n)))
	}
	return l
}

func TestNodesOfAllPairs(t *testing.T) {
	outs := slices.Concat([]api.Out{unknown, no, yes, div, many}, integers(), texts())
	for _, op := range everyOp() {
		for _, a := range outs {
			checkNode(t, op, a)
			for _, b := range outs {
				checkNode(t, op, a, b)
			}
		}
	}
}

func TestLengthsOfTexts(t *testing.T) {
	for n := range 103 {
		for m := range 103 {
			checkNode(t, api.OpConcat, word(strings.Repeat("a", n)), word(strings.Repeat("b", m)))
		}
		checkNode(t, api.OpLength, word(strings.Repeat("\xff", n)))
	}
}

// TestManyKids has one out among very many others.
func TestManyKids(t *testing.T) {
	const n = 100_001
	for _, x := range []struct {
		op         api.Op
		kid, other api.Out
		want       api.Out
	}{
		{api.OpAnd, yes, unknown, unknown}, {api.OpAnd, unknown, no, no}, {api.OpAnd, many, div, div}, {api.OpAnd, div, many, div}, {api.OpAnd, yes, long, long}, {api.OpAnd, yes, yes, yes}, {api.OpAnd, yes, num(1), wrong},
		{api.OpOr, no, unknown, unknown}, {api.OpOr, unknown, yes, yes}, {api.OpOr, many, div, div}, {api.OpOr, no, long, long}, {api.OpOr, no, no, no}, {api.OpOr, no, word(""), wrong},
		{api.OpCoalesce, unknown, num(1), num(1)}, {api.OpCoalesce, unknown, over, over}, {api.OpCoalesce, unknown, unknown, unknown}, {api.OpCoalesce, num(1), word(""), wrong},
		{api.OpCase, unknown, num(1), num(1)}, {api.OpCase, unknown, many, many}, {api.OpCase, no, unknown, unknown},
	} {
		kids := slices.Repeat([]api.Out{x.kid}, n)
		kids[n-1] = x.other
		if o := calc.Node(x.op, kids); o != x.want {
			t.Errorf("Node(%d) with many of %v, and then %v, is %v, want %v", x.op, x.kid, x.other, o, x.want)
		}
	}
	for _, op := range everyOp() {
		if o := calc.Node(op, make([]api.Out, n)); o != unknown && mayHave(op, n) || o != wrong && !mayHave(op, n) {
			t.Errorf("Node(%d) with many nulls is %v", op, o)
		}
	}
}

func TestNodesOfTheDocument(t *testing.T) {
	least, most := num(-1<<63), num(1<<63-1)
	for _, x := range []struct {
		op   api.Op
		kids []api.Out
		want api.Out
	}{
		{api.OpAnd, []api.Out{div, unknown}, unknown}, {api.OpAnd, []api.Out{yes, long, div}, div}, {api.OpAnd, []api.Out{div, unknown, no}, no}, {api.OpAnd, nil, yes}, {api.OpAnd, []api.Out{yes, div}, div},
		{api.OpOr, []api.Out{div, yes}, yes}, {api.OpOr, []api.Out{div, no}, div}, {api.OpOr, []api.Out{no, div, unknown}, unknown}, {api.OpOr, nil, no}, {api.OpOr, []api.Out{many, long, over}, over},
		{api.OpAdd, []api.Out{div, unknown}, div}, {api.OpMod, []api.Out{least, num(-1)}, num(0)}, {api.OpDiv, []api.Out{least, num(-1)}, over}, {api.OpDiv, []api.Out{num(-7), num(2)}, num(-3)}, {api.OpMod, []api.Out{num(-7), num(2)}, num(-1)},
		{api.OpDiv, []api.Out{least, num(0)}, div}, {api.OpMod, []api.Out{num(0), num(0)}, div}, {api.OpNeg, []api.Out{least}, over}, {api.OpNeg, []api.Out{most}, num(1 - 1<<63)}, {api.OpMul, []api.Out{least, num(-1)}, over}, {api.OpSub, []api.Out{num(0), least}, over}, {api.OpSub, []api.Out{num(1), num(3)}, num(-2)},
		{api.OpDiv, []api.Out{unknown, num(0)}, unknown}, {api.OpLt, []api.Out{num(1), unknown}, unknown}, {api.OpNot, []api.Out{unknown}, unknown}, {api.OpLength, []api.Out{unknown}, unknown},
		{api.OpEq, []api.Out{unknown, unknown}, unknown}, {api.OpSame, []api.Out{unknown, unknown}, yes}, {api.OpSame, []api.Out{no, unknown}, no}, {api.OpSame, []api.Out{unknown, many}, many}, {api.OpSame, []api.Out{num(1), word("1")}, wrong},
		{api.OpIsNull, []api.Out{unknown}, yes}, {api.OpIsNull, []api.Out{num(0)}, no}, {api.OpIsNull, []api.Out{div}, div}, {api.OpIsTrue, []api.Out{unknown}, no}, {api.OpIsTrue, []api.Out{long}, long},
		{api.OpCase, []api.Out{unknown, div, num(7)}, num(7)}, {api.OpCase, []api.Out{yes, num(1), div, div}, num(1)}, {api.OpCase, []api.Out{yes, div, num(1)}, div}, {api.OpCase, []api.Out{no, num(1)}, unknown}, {api.OpCase, []api.Out{no, num(1), word("a")}, wrong}, {api.OpCase, []api.Out{yes, num(1), num(1), num(2)}, wrong},
		{api.OpCoalesce, []api.Out{unknown, num(1), div}, num(1)}, {api.OpCoalesce, []api.Out{unknown, div, num(1)}, div}, {api.OpCoalesce, []api.Out{no}, no}, {api.OpCoalesce, []api.Out{num(1), word("a")}, wrong},
		{api.OpLike, []api.Out{word("abc"), word("_b_")}, yes}, {api.OpLike, []api.Out{word("_b_"), word("abc")}, no}, {api.OpLt, []api.Out{no, yes}, yes}, {api.OpGt, []api.Out{word("b"), word("ab")}, yes},
		{api.OpEq, []api.Out{num(1), yes}, wrong}, {api.OpColumn, nil, wrong}, {api.OpExists, nil, wrong}, {api.OpIn, []api.Out{num(1)}, wrong}, {api.OpScalar, nil, wrong}, {api.OpNot, nil, wrong}, {api.OpCoalesce, nil, wrong},
	} {
		if o := calc.Node(x.op, x.kids); o != x.want {
			t.Errorf("Node(%d, %v) is %v, want %v", x.op, x.kids, o, x.want)
		}
	}
}
