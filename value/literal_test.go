package value_test

import (
	"strings"
	"testing"

	"jointer/api"
	"jointer/value"
)

// P1.5

func TestLiterals(t *testing.T) {
	for _, x := range []struct {
		v api.Value
		s string
	}{
		{api.Value{}, "NULL"}, {value.Bool(true), "TRUE"}, {value.Bool(false), "FALSE"},
		{value.Int(0), "0"}, {value.Int(7), "7"}, {value.Int(-7), "-7"}, {value.Int(100), "100"},
		{value.Int(1<<63 - 1), "9223372036854775807"}, {value.Int(-1 << 63), "-9223372036854775808"},
		{text(""), "''"}, {text("it's"), "'it''s'"}, {text("'"), "''''"}, {text("''"), "''''''"}, {text("NULL"), "'NULL'"}, {text("7"), "'7'"},
		{text("\xff\x00\n\"\\"), "'\xff\x00\n\"\\'"}, {text("é"), "'é'"},
		{text(strings.Repeat("x", 100)), "'" + strings.Repeat("x", 100) + "'"}, {text(strings.Repeat("'", 100)), strings.Repeat("'", 202)},
	} {
		if s, e := value.Print(x.v); s != x.s || e != api.OK {
			t.Errorf("Print(%#v) is %q, %v", x.v, s, e)
		}
		if v, e := value.Read(x.s); v != x.v || e != api.OK {
			t.Errorf("Read(%q) is %#v, %v", x.s, v, e)
		}
	}
}

func TestReadOfPrint(t *testing.T) {
	var l []api.Value
	for _, n := range edges() {
		l = append(l, value.Int(n))
	}
	for _, s := range append(allBytes(), words("a' ", 5)...) {
		l = append(l, text(s))
	}
	for _, v := range l {
		s, e := value.Print(v)
		if e != api.OK {
			t.Errorf("Print(%#v) is %v", v, e)
		}
		if w, e := value.Read(s); w != v || e != api.OK {
			t.Errorf("Read(%q) is %#v, %v", s, w, e)
		}
	}
}

func TestWhatReadAcceptsIsTheLiteral(t *testing.T) {
	l := words("01-'a", 6)
	for _, keyword := range []string{"NULL", "TRUE", "FALSE"} {
		for _, s := range words(" '-0", 2) {
			l = append(l, keyword+s, s+keyword, s+keyword+s)
		}
		for i := range keyword {
			l = append(l, keyword[:i], keyword[i:], keyword[:i]+strings.ToLower(keyword[i:]))
		}
	}
	for _, s := range l {
		v, e := value.Read(s)
		if e != api.OK {
			if e != api.ErrArg || v != (api.Value{}) {
				t.Errorf("Read(%q) is %#v, %v", s, v, e)
			}
			continue
		}
		if p, e := value.Print(v); p != s || e != api.OK {
			t.Errorf("Read(%q) is %#v, whose literal is %q", s, v, p)
		}
	}
}

func TestReadErrors(t *testing.T) {
	digits := strings.Repeat("9", 100000)
	x100 := strings.Repeat("x", 100)
	for _, x := range []struct {
		s string
		e api.Errno
	}{
		{"", api.ErrArg}, {"-", api.ErrArg}, {"--1", api.ErrArg}, {"-0", api.ErrArg}, {"+1", api.ErrArg}, {"01", api.ErrArg}, {"-01", api.ErrArg}, {"00", api.ErrArg}, {"1-", api.ErrArg},
		{" 1", api.ErrArg}, {"1 ", api.ErrArg}, {"- 1", api.ErrArg}, {"1_0", api.ErrArg}, {"0x1", api.ErrArg}, {"1e3", api.ErrArg}, {"1.0", api.ErrArg}, {"1a1", api.ErrArg}, {"\u0661", api.ErrArg},
		{"null", api.ErrArg}, {"Null", api.ErrArg}, {"true", api.ErrArg}, {"false", api.ErrArg}, {"NULL ", api.ErrArg}, {" TRUE", api.ErrArg}, {"TRUEFALSE", api.ErrArg}, {"abc", api.ErrArg},
		{"'", api.ErrArg}, {"'''", api.ErrArg}, {"'''''", api.ErrArg}, {"'a", api.ErrArg}, {"a'", api.ErrArg}, {"'a'b'", api.ErrArg}, {"'a' ", api.ErrArg}, {" 'a'", api.ErrArg}, {"'a''", api.ErrArg}, {"''a'", api.ErrArg}, {"'a'''b'c'", api.ErrArg}, {"\"a\"", api.ErrArg},
		{"9223372036854775808", api.ErrOverflow}, {"-9223372036854775809", api.ErrOverflow}, {"18446744073709551616", api.ErrOverflow}, {"18446744073709551617", api.ErrOverflow}, {digits, api.ErrOverflow}, {"-" + digits, api.ErrOverflow},
		{"09223372036854775808", api.ErrArg}, {"-09223372036854775809", api.ErrArg}, {"0" + digits, api.ErrArg}, {"+" + digits, api.ErrArg}, {digits + " ", api.ErrArg}, {digits + "x", api.ErrArg}, {"--" + digits, api.ErrArg},
		{"'" + x100 + "x'", api.ErrLong}, {"'" + x100 + "'''", api.ErrLong}, {"'" + strings.Repeat("''", 101) + "'", api.ErrLong}, {"'" + digits + "'", api.ErrLong},
		{"'" + x100 + "x", api.ErrArg}, {"'" + x100 + "'x'", api.ErrArg}, {"'" + x100 + "''", api.ErrArg}, {x100 + "x'", api.ErrArg}, {"'" + x100 + "x' ", api.ErrArg},
	} {
		if v, e := value.Read(x.s); v != (api.Value{}) || e != x.e {
			t.Errorf("Read(%.40q) of %d bytes is %#v, %v; want %v", x.s, len(x.s), v, e, x.e)
		}
	}
}

func TestPrintErrors(t *testing.T) {
	for _, v := range []api.Value{
		{Int: 1}, {Text: "x"}, {Kind: api.KindInt, Text: "x"}, {Kind: api.KindText, Int: 1, Text: "x"}, text(strings.Repeat("x", 101)), {Kind: api.KindBool, Int: 2}, {Kind: api.KindBool, Int: -1}, {Kind: api.KindBool, Text: "x"}, {Kind: 4}, {Kind: 255, Int: 1},
	} {
		if s, e := value.Print(v); s != "" || e != api.ErrArg {
			t.Errorf("Print(%#v) is %q, %v", v, s, e)
		}
	}
}
