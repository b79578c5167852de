package scheme

// all returns whether each element of a list is as a test says.
func all[T any](list []T, is func(T) bool) bool {
	for _, x := range list {
		if !is(x) {
			return false
		}
	}
	return true
}

// each returns, in new memory, what is made of each element of a list.
func each[T, U any](list []T, of func(T) U) []U {
	made := make([]U, len(list))
	for i, x := range list {
		made[i] = of(x)
	}
	return made
}

// differ returns whether no two elements of a list are the same.
func differ[K comparable](list []K) bool {
	seen := map[K]bool{}
	for _, x := range list {
		if seen[x] {
			return false
		}
		seen[x] = true
	}
	return true
}

// within returns the test of whether something is an element of a list.
func within[K comparable](list []K) func(K) bool {
	found := map[K]bool{}
	for _, x := range list {
		found[x] = true
	}
	return func(x K) bool { return found[x] }
}

// isPlace returns whether a list of some length has an element of this number.
func isPlace(n, length int) bool {
	return 0 <= n && n < length
}

// rising returns whether the numbers of a list are places in a list of some length, each greater than the one before it.
func rising(list []int, length int) bool {
	last := -1
	for _, n := range list {
		if n <= last || n >= length {
			return false
		}
		last = n
	}
	return true
}
