package value

import (
	"strconv"
	"strings"

	"jointer/api"
)

// Print returns the literal of a value, or ErrArg.
func Print(v api.Value) (string, api.Errno) {
	if !Valid(v) {
		return "", api.ErrArg
	}
	switch v.Kind {
	case api.KindInt:
		return strconv.FormatInt(v.Int, 10), api.OK
	case api.KindText:
		return "'" + strings.ReplaceAll(v.Text, "'", "''") + "'", api.OK
	}
	switch v {
	case Bool(true):
		return "TRUE", api.OK
	case Bool(false):
		return "FALSE", api.OK
	}
	return "NULL", api.OK
}

// Read returns the value of a literal, or an error.
func Read(s string) (api.Value, api.Errno) {
	switch s {
	case "NULL":
		return api.Value{}, api.OK
	case "TRUE":
		return Bool(true), api.OK
	case "FALSE":
		return Bool(false), api.OK
	}
	if isInteger(s) {
		return readInteger(s)
	}
	if inner, ok := quoted(s); ok {
		return Text(strings.ReplaceAll(inner, "''", "'"))
	}
	return api.Value{}, api.ErrArg
}

// isInteger returns whether s has the form of the literal of an integer of any size.
func isInteger(s string) bool {
	digits, negative := strings.CutPrefix(s, "-")
	if digits == "0" {
		return !negative
	}
	return digits != "" && digits[0] != '0' && strings.Trim(digits, "0123456789") == ""
}

func readInteger(s string) (api.Value, api.Errno) {
	n, err := strconv.ParseInt(s, 10, 64)
	if err != nil { // the form is right, so that only the size can be wrong
		return api.Value{}, api.ErrOverflow
	}
	return Int(n), api.OK
}

// quoted returns what stands between the outer bytes ' of s, if s has the form of the literal of a text of any length.
func quoted(s string) (string, bool) {
	rest, opened := strings.CutPrefix(s, "'")
	inner, closed := strings.CutSuffix(rest, "'")
	if !opened || !closed || strings.Contains(strings.ReplaceAll(inner, "''", ""), "'") {
		return "", false
	}
	return inner, true
}
