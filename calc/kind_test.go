package calc_test

import (
	"slices"
	"testing"

	"jointer/api"
	"jointer/calc"
)

// P5.1

func checkKind(t *testing.T, op api.Op, kids ...api.Kind) {
	t.Helper()
	want, wantErr := wantKind(op, kids)
	given := slices.Clone(kids)
	if k, e := calc.Kind(op, given); k != want || e != wantErr {
		t.Errorf("Kind(%d, %v) is %d, %v; want %d, %v", op, kids, k, e, want, wantErr)
	}
	if !slices.Equal(given, kids) {
		t.Errorf("Kind(%d, %v) has changed the kinds: %v", op, kids, given)
	}
}

func TestKindsOfAllShortLists(t *testing.T) {
	for _, op := range everyOp() {
		for n := range 5 {
			for kids := range lists([]api.Kind{null, integer, text, boolean, 4, 255}, n) {
				checkKind(t, op, kids...)
			}
		}
		for n := 5; n <= 6; n++ {
			for kids := range lists([]api.Kind{null, integer, text, boolean}, n) {
				checkKind(t, op, kids...)
			}
		}
	}
}

func TestKindsThatDoNotExist(t *testing.T) {
	for k := 4; k < 256; k++ {
		kind := api.Kind(k)
		for _, op := range everyOp() {
			checkKind(t, op, kind)
			checkKind(t, op, kind, null)
			checkKind(t, op, integer, kind)
			checkKind(t, op, boolean, text, kind)
			checkKind(t, op, text, kind, boolean) // ErrArg comes before ErrKind
		}
	}
}

// TestKindsOfLongLists has lists in which one kind, at any place near the ends, is another one.
func TestKindsOfLongLists(t *testing.T) {
	for _, op := range []api.Op{api.OpAnd, api.OpOr, api.OpCase, api.OpCoalesce} {
		for _, n := range []int{99, 100} {
			for _, kind := range []api.Kind{null, integer, text, boolean} {
				kids := slices.Repeat([]api.Kind{kind}, n)
				if op == api.OpCase {
					for i := 0; i+1 < n; i += 2 {
						kids[i] = boolean
					}
				}
				checkKind(t, op, kids...)
				for _, other := range []api.Kind{null, integer, text, boolean, 4} {
					for _, i := range []int{0, 1, 2, 3, 50, 51, n - 3, n - 2, n - 1} {
						changed := slices.Clone(kids)
						changed[i] = other
						checkKind(t, op, changed...)
					}
				}
			}
		}
	}
	for _, op := range everyOp() {
		checkKind(t, op, make([]api.Kind, 1000)...)
	}
}

func TestKindsOfTheDocument(t *testing.T) {
	for _, x := range []struct {
		op   api.Op
		kids []api.Kind
		kind api.Kind
		err  api.Errno
	}{
		{api.OpAdd, []api.Kind{integer, null}, integer, api.OK},
		{api.OpEq, []api.Kind{integer, text}, 0, api.ErrKind},
		{api.OpCase, []api.Kind{boolean, null, text}, text, api.OK},
		// A node of which all kids are KindNull has the kind of the table.
		{api.OpNeg, []api.Kind{null}, integer, api.OK}, {api.OpMod, []api.Kind{null, null}, integer, api.OK},
		{api.OpConcat, []api.Kind{null, null}, text, api.OK}, {api.OpLength, []api.Kind{null}, integer, api.OK},
		{api.OpSame, []api.Kind{null, null}, boolean, api.OK}, {api.OpLike, []api.Kind{null, null}, boolean, api.OK},
		{api.OpIsNull, []api.Kind{null}, boolean, api.OK}, {api.OpNot, []api.Kind{null}, boolean, api.OK},
		{api.OpAnd, []api.Kind{null, null}, boolean, api.OK}, {api.OpOr, nil, boolean, api.OK},
		{api.OpCase, []api.Kind{null, null}, null, api.OK}, {api.OpCase, []api.Kind{boolean, null, null}, null, api.OK},
		{api.OpCoalesce, []api.Kind{null, null}, null, api.OK},
		// Operators that are none of the table.
		{api.OpConst, nil, 0, api.ErrArg}, {api.OpName, nil, 0, api.ErrArg}, {api.OpColumn, nil, 0, api.ErrArg}, {api.OpAgg, []api.Kind{integer}, 0, api.ErrArg},
		{api.OpExists, nil, 0, api.ErrArg}, {api.OpIn, []api.Kind{integer}, 0, api.ErrArg}, {api.OpScalar, nil, 0, api.ErrArg}, {30, []api.Kind{integer}, 0, api.ErrArg},
		// Numbers of kids that are not those of the table.
		{api.OpNeg, nil, 0, api.ErrArg}, {api.OpNeg, []api.Kind{integer, integer}, 0, api.ErrArg}, {api.OpSub, []api.Kind{integer}, 0, api.ErrArg},
		{api.OpCase, []api.Kind{boolean}, 0, api.ErrArg}, {api.OpCase, nil, 0, api.ErrArg}, {api.OpCoalesce, nil, 0, api.ErrArg},
	} {
		if k, e := calc.Kind(x.op, x.kids); k != x.kind || e != x.err {
			t.Errorf("Kind(%d, %v) is %d, %v; want %d, %v", x.op, x.kids, k, e, x.kind, x.err)
		}
	}
}
