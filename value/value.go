// Package value is layer 1: which values are valid, their order, checked arithmetic, patterns, and the texts of values.
package value

import (
	"cmp"
	"slices"
	"strings"

	"jointer/api"
)

// Valid returns whether v is a valid value.
func Valid(v api.Value) bool {
	switch v.Kind {
	case api.KindNull:
		return v == api.Value{}
	case api.KindInt:
		return v == Int(v.Int)
	case api.KindText:
		return v == text(v.Text) && len(v.Text) <= api.MaxText
	case api.KindBool:
		return v == Bool(false) || v == Bool(true)
	}
	return false
}

// Int returns an integer.
func Int(n int64) api.Value {
	return api.Value{Kind: api.KindInt, Int: n}
}

// Text returns a text, or ErrLong if s is too long for one.
func Text(s string) (api.Value, api.Errno) {
	if len(s) > api.MaxText {
		return api.Value{}, api.ErrLong
	}
	return text(s), api.OK
}

func text(s string) api.Value {
	return api.Value{Kind: api.KindText, Text: s}
}

// Bool returns a boolean.
func Bool(b bool) api.Value {
	v := api.Value{Kind: api.KindBool}
	if b {
		v.Int = 1
	}
	return v
}

// Compare compares two values in the order of values.
func Compare(a, b api.Value) int {
	// The numbers of the kinds stand in the order of values, and kinds that do not exist have greater ones.
	if a.Kind != b.Kind {
		return cmp.Compare(a.Kind, b.Kind)
	}
	switch a.Kind {
	case api.KindNull:
		return 0
	case api.KindInt, api.KindBool:
		return cmp.Compare(a.Int, b.Int)
	case api.KindText:
		return strings.Compare(a.Text, b.Text)
	}
	return cmp.Or(cmp.Compare(a.Int, b.Int), strings.Compare(a.Text, b.Text))
}

// CompareRows compares two rows in the order of rows.
func CompareRows(a, b api.Row) int {
	return slices.CompareFunc(a, b, Compare)
}
