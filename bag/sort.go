package bag

import (
	"slices"

	"jointer/api"
	"jointer/value"
)

// isSortable returns whether a list is valid, and keys are valid for it.
func isSortable(rows []api.Row, keys []api.Key) bool {
	isWrong := func(k api.Key) bool { return !hasColumn(rows, k.Col) }
	return Valid(rows) && !slices.ContainsFunc(keys, isWrong)
}

// byKeys returns the order by keys.
func byKeys(keys []api.Key) func(a, b api.Row) int {
	return func(a, b api.Row) int {
		for _, k := range keys {
			order := value.Compare(a[k.Col], b[k.Col])
			if k.Desc {
				order = -order
			}
			if order != 0 {
				return order
			}
		}
		return 0
	}
}

// fully returns the order by keys, and of rows that are alike in them the order of rows.
func fully(keys []api.Key) func(a, b api.Row) int {
	order := byKeys(keys)
	return func(a, b api.Row) int {
		if o := order(a, b); o != 0 {
			return o
		}
		return value.CompareRows(a, b)
	}
}

// Sorted returns whether a list is sorted by keys; false also if it or they are not valid.
func Sorted(rows []api.Row, keys []api.Key) bool {
	return isSortable(rows, keys) && slices.IsSortedFunc(rows, byKeys(keys))
}

// Sort returns the list fully sorted by keys, or ErrArg.
func Sort(rows []api.Row, keys []api.Key) ([]api.Row, api.Errno) {
	return Cut(rows, keys, 0, len(rows))
}

// Cut returns at most count rows of the fully sorted list, from number from on, or ErrArg.
func Cut(rows []api.Row, keys []api.Key, from, count int) ([]api.Row, api.Errno) {
	if !isSortable(rows, keys) || from < 0 || count < 0 {
		return nil, api.ErrArg
	}
	sorted := slices.SortedFunc(slices.Values(rows), fully(keys))
	rest := sorted[min(from, len(sorted)):]
	return copied(rest[:min(count, len(rest))]), api.OK // from + count may be outside of 64 bits
}
