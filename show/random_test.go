package show_test

import (
	"math/rand"
	"testing"

	"jointer/api"
)

// checkMade checks n trees that are made together with their sources, and changes of them. The trees that are too large are few.
func checkMade[T any](t *testing.T, f face[T], n int, r *rand.Rand, one func() (string, T)) {
	t.Helper()
	changes, valid, not := 0, 0, 0
	for range n {
		s, tree := one()
		f.checkSource(t, tree, s)
		if len(s) > 300 { // the number of nodes may be near its limit, or checking take long
			continue
		}
		if len(s) < 120 {
			f.checkShortest(t, tree, s)
		}
		changes += f.checkChanged(t, r, s)
		more, fewer := f.checkParts(t, r, tree)
		valid, not = valid+more, not+fewer
		if t.Failed() {
			return
		}
	}
	if changes < n || valid < n || not < n {
		t.Errorf("too few changes: %d sources, %d valid trees, %d others", changes, valid, not)
	}
}

// P4.1 to P4.4

func TestMadeTerms(t *testing.T) {
	m := maker{rand.New(rand.NewSource(1))}
	d := 0
	checkMade(t, terms, 1500, m.Rand, func() (string, api.Term) {
		d++
		return m.any(d % 6)
	})
}

func TestMadeQueries(t *testing.T) {
	m := maker{rand.New(rand.NewSource(2))}
	d := 0
	checkMade(t, queries, 1500, m.Rand, func() (string, api.Query) {
		d++
		s, q, _ := m.query(d % 5)
		return s, q
	})
}

func TestMadeCommands(t *testing.T) {
	m := maker{rand.New(rand.NewSource(3))}
	d := 0
	checkMade(t, commands, 1500, m.Rand, func() (string, api.Command) {
		d++
		return m.command(d % 4)
	})
}

// TestLargeTrees makes trees on both sides of the limits of nodes and of bytes.
func TestLargeTrees(t *testing.T) {
	m := maker{rand.New(rand.NewSource(4))}
	counts := map[api.Errno]int{}
	for range 600 {
		s, q, _ := m.query(7)
		if n := queryNodes(q); n < 150 || n > 2000 {
			continue
		}
		queries.checkSource(t, q, s)
		_, e := queries.show(q)
		counts[e]++
	}
	if counts[api.OK] < 20 || counts[api.ErrArg] < 20 {
		t.Errorf("too few trees on one side: %v", counts)
	}
}
