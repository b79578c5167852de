package algebra

// all returns whether each element of a list is as a test says. The elements after the first one that is not are not tested.
func all[T any](list []T, is func(*T) bool) bool {
	for i := range list {
		if !is(&list[i]) {
			return false
		}
	}
	return true
}

// each returns, in new memory, what is made of each element of a list.
func each[T, U any](list []T, of func(T) U) []U {
	made := make([]U, len(list))
	for i, x := range list {
		made[i] = of(x)
	}
	return made
}
