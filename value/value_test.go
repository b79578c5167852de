package value_test

import (
	"cmp"
	"strings"
	"testing"

	"jointer/api"
	"jointer/value"
)

func text(s string) api.Value {
	return api.Value{Kind: api.KindText, Text: s}
}

// allBytes returns the texts of one byte, in their order.
func allBytes() []string {
	var l []string
	for b := range 256 {
		l = append(l, string([]byte{byte(b)}))
	}
	return l
}

// P1.1

func TestValidValues(t *testing.T) {
	l := []api.Value{
		{},
		{Kind: api.KindInt}, {Kind: api.KindInt, Int: 7}, {Kind: api.KindInt, Int: -1 << 63}, {Kind: api.KindInt, Int: 1<<63 - 1},
		text(""), text("it's"), text("\x00\xff\n"), text(strings.Repeat("x", 100)), text(strings.Repeat("\xff", 100)),
		{Kind: api.KindBool}, {Kind: api.KindBool, Int: 1},
	}
	for _, s := range allBytes() {
		l = append(l, text(s))
	}
	for _, v := range l {
		if !value.Valid(v) {
			t.Errorf("%#v is valid", v)
		}
	}
}

func TestInvalidValues(t *testing.T) {
	l := []api.Value{
		{Int: 1}, {Int: -1}, {Text: "x"}, {Int: 1, Text: "x"},
		{Kind: api.KindInt, Text: "7"}, {Kind: api.KindInt, Int: 7, Text: "x"},
		{Kind: api.KindText, Int: 1, Text: "x"}, {Kind: api.KindText, Int: -1},
		text(strings.Repeat("x", 101)), text(strings.Repeat("x", 1<<20)),
		{Kind: api.KindBool, Int: 2}, {Kind: api.KindBool, Int: -1}, {Kind: api.KindBool, Int: -1 << 63}, {Kind: api.KindBool, Text: "x"}, {Kind: api.KindBool, Int: 1, Text: "x"},
	}
	for kind := 4; kind < 256; kind++ {
		l = append(l, api.Value{Kind: api.Kind(kind)}, api.Value{Kind: api.Kind(kind), Int: 1}, api.Value{Kind: api.Kind(kind), Text: "x"})
	}
	for _, v := range l {
		if value.Valid(v) {
			t.Errorf("a value is not valid: kind %d, Int %d, %d bytes", v.Kind, v.Int, len(v.Text))
		}
	}
}

func TestInt(t *testing.T) {
	for _, n := range []int64{0, 1, -1, 7, 1<<63 - 1, -1 << 63} {
		want := api.Value{Kind: api.KindInt, Int: n}
		if v := value.Int(n); v != want {
			t.Errorf("Int(%d) is %#v", n, v)
		}
	}
}

func TestText(t *testing.T) {
	for _, s := range append(allBytes(), "", "it's", "\xff\x00", strings.Repeat("'", 100)) {
		if v, e := value.Text(s); v != text(s) || e != api.OK {
			t.Errorf("Text(%q) is %#v, %v", s, v, e)
		}
	}
	for _, n := range []int{101, 102, 1 << 20} {
		if v, e := value.Text(strings.Repeat("x", n)); v != (api.Value{}) || e != api.ErrLong {
			t.Errorf("Text of %d bytes is of kind %d, %v", n, v.Kind, e)
		}
	}
}

func TestBool(t *testing.T) {
	if v := value.Bool(false); v != (api.Value{Kind: api.KindBool}) {
		t.Errorf("Bool(false) is %#v", v)
	}
	if v := value.Bool(true); v != (api.Value{Kind: api.KindBool, Int: 1}) {
		t.Errorf("Bool(true) is %#v", v)
	}
}

// P1.2

// compareAll checks the comparison of all pairs of a list whose elements stand in their order.
func compareAll(t *testing.T, l []api.Value) {
	t.Helper()
	for i, a := range l {
		for j, b := range l {
			want := cmp.Compare(i, j)
			if c := value.Compare(a, b); c != want {
				t.Errorf("Compare(%#v, %#v) is %d, want %d", a, b, c, want)
			}
			rows := value.CompareRows(api.Row{a}, api.Row{b})
			if rows != want {
				t.Errorf("CompareRows((%#v), (%#v)) is %d, want %d", a, b, rows, want)
			}
		}
	}
}

func TestOrderOfValues(t *testing.T) {
	compareAll(t, []api.Value{
		{},
		value.Int(-1 << 63), value.Int(-1<<63 + 1), value.Int(-7), value.Int(-1), value.Int(0), value.Int(1), value.Int(7), value.Int(10), value.Int(1<<63 - 1),
		text(""), text("\x00"), text("\x00\x00"), text("10"), text("7"), text("A"), text("a"), text("a\x00"), text("ab"), text("b"), text("\x7f"), text("\x80"), text("é"), text("\xff"), text("\xff\x00"),
		value.Bool(false), value.Bool(true),
	})
	l := []api.Value{{}, value.Int(7)}
	for _, s := range allBytes() {
		l = append(l, text(s))
	}
	compareAll(t, append(l, value.Bool(false), value.Bool(true)))
}

func TestOrderOfInvalidValues(t *testing.T) {
	compareAll(t, []api.Value{
		{Int: 9, Text: "z"},
		{Kind: api.KindInt, Int: 1, Text: "z"}, {Kind: api.KindInt, Int: 2, Text: "a"},
		{Kind: api.KindText, Int: 9, Text: "a"}, {Kind: api.KindText, Int: 1, Text: strings.Repeat("b", 101)},
		{Kind: api.KindBool, Int: -5, Text: "z"}, {Kind: api.KindBool, Int: 0, Text: "y"}, {Kind: api.KindBool, Int: 1, Text: "x"}, {Kind: api.KindBool, Int: 2},
		{Kind: 4, Int: -1, Text: "z"}, {Kind: 4, Int: 3}, {Kind: 4, Int: 3, Text: "a"}, {Kind: 4, Int: 3, Text: "b"}, {Kind: 4, Int: 4},
		{Kind: 5, Int: -9}, {Kind: 255, Int: -1 << 63},
	})
}

func TestFieldsWithoutMeaningDoNotCount(t *testing.T) {
	for _, x := range [][2]api.Value{
		{{}, {Int: 1}}, {{}, {Text: "x"}}, {{Int: 5, Text: "a"}, {Int: -5, Text: "b"}},
		{value.Int(7), {Kind: api.KindInt, Int: 7, Text: "x"}},
		{text("a"), {Kind: api.KindText, Int: 7, Text: "a"}},
		{value.Bool(true), {Kind: api.KindBool, Int: 1, Text: "x"}},
	} {
		if c := value.Compare(x[0], x[1]); c != 0 {
			t.Errorf("Compare(%#v, %#v) is %d", x[0], x[1], c)
		}
		if c := value.Compare(x[1], x[0]); c != 0 {
			t.Errorf("Compare(%#v, %#v) is %d", x[1], x[0], c)
		}
	}
}

func TestOrderOfRows(t *testing.T) {
	null, one, two := api.Value{}, value.Int(1), value.Int(2)
	l := []api.Row{
		{},
		{null}, {null, null}, {null, two},
		{one}, {one, null}, {one, null, null}, {one, one}, {one, two}, {one, text("a")}, {one, text("ab")}, {one, text("b"), null},
		{two}, {two, null}, {two, one},
		{value.Bool(false), two}, {value.Bool(true)}, {{Kind: 9}},
	}
	for i, a := range l {
		for j, b := range l {
			want := cmp.Compare(i, j)
			if c := value.CompareRows(a, b); c != want {
				t.Errorf("CompareRows(%v, %v) is %d, want %d", a, b, c, want)
			}
		}
	}
}

func TestRowsThatAreTheSame(t *testing.T) {
	for _, x := range [][2]api.Row{
		{nil, nil}, {nil, {}}, {{}, nil},
		{{value.Int(1), text("a")}, {value.Int(1), text("a")}},
		{{{Int: 1}, value.Int(1)}, {{}, value.Int(1)}},
	} {
		if c := value.CompareRows(x[0], x[1]); c != 0 {
			t.Errorf("CompareRows(%v, %v) is %d", x[0], x[1], c)
		}
	}
}
