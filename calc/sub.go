package calc

import (
	"slices"

	"jointer/api"
	"jointer/value"
)

// isOutcome returns whether an outcome is valid.
func isOutcome(o api.Outcome) bool {
	if isFailure(o.Err) {
		return len(o.Rows) == 0
	}
	isWrong := func(v api.Value) bool { return !value.Valid(v) }
	return o.Err == api.OK && !slices.ContainsFunc(o.Rows, func(r api.Row) bool { return slices.ContainsFunc(r, isWrong) })
}

// isColumn returns whether an outcome is valid, and each of its rows has one value.
func isColumn(o api.Outcome) bool {
	return isOutcome(o) && !slices.ContainsFunc(o.Rows, func(r api.Row) bool { return len(r) != 1 })
}

// Exists returns whether an outcome has rows, or an out with an error.
func Exists(o api.Outcome) api.Out {
	if !isOutcome(o) {
		return failing(api.ErrArg)
	}
	if o.Err != api.OK {
		return failing(o.Err)
	}
	return truth(len(o.Rows) > 0)
}

// In returns whether a value is among the rows of an outcome, or an out with an error.
func In(x api.Out, o api.Outcome) api.Out {
	if !isValid(x) || !isColumn(o) {
		return failing(api.ErrArg)
	}
	if e := least(x, failing(o.Err)); e != api.OK {
		return failing(e)
	}
	has := func(v api.Value) bool {
		return slices.ContainsFunc(o.Rows, func(r api.Row) bool { return r[0] == v })
	}
	if x != null() && has(x.V) {
		return truth(true)
	}
	if len(o.Rows) > 0 && (x == null() || has(null().V)) {
		return null()
	}
	return truth(false)
}

// Scalar returns the value of the only row of an outcome, null if there is no row, or an out with an error.
func Scalar(o api.Outcome) api.Out {
	if !isColumn(o) {
		return failing(api.ErrArg)
	}
	if o.Err != api.OK {
		return failing(o.Err)
	}
	if len(o.Rows) > 1 {
		return failing(api.ErrMany)
	}
	if len(o.Rows) == 0 {
		return null()
	}
	return api.Out{V: o.Rows[0][0]}
}
