package bag

import (
	"slices"

	"jointer/api"
)

// Distinct returns each row once, or ErrArg.
func Distinct(rows []api.Row) ([]api.Row, api.Errno) {
	sorted, e := Sort(rows, nil)
	return slices.CompactFunc(sorted, slices.Equal[api.Row]), e
}

// Union returns the rows of both lists, or ErrArg.
func Union(a, b []api.Row) ([]api.Row, api.Errno) {
	return Sort(slices.Concat(a, b), nil)
}

// Intersect returns each row as often as it occurs in both lists, or ErrArg.
func Intersect(a, b []api.Row) ([]api.Row, api.Errno) {
	if !Valid(slices.Concat(a, b)) {
		return nil, api.ErrArg
	}
	met, _ := part(a, b)
	return Sort(met, nil)
}

// Except returns each row as often as it occurs more often in a than in b, or ErrArg.
func Except(a, b []api.Row) ([]api.Row, api.Errno) {
	if !Valid(slices.Concat(a, b)) {
		return nil, api.ErrArg
	}
	_, rest := part(a, b)
	return Sort(rest, nil)
}
