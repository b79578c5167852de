package parse_test

import (
	"fmt"
	"math/rand"
	"reflect"
	"slices"
	"testing"

	"jointer/api"
	"jointer/parse"
)

// nodesOf counts the nodes of the parts of a tree. It is at most 2^30.
func nodesOf[T any](l []T, nodes func(T) int) int {
	n := 0
	for _, x := range l {
		n = min(n+nodes(x), 1<<30)
	}
	return n
}

func termNodes(t api.Term) int {
	return 1 + nodesOf(t.Kids, termNodes) + nodesOf(t.Sub, queryNodes)
}

func queryNodes(q api.Query) int {
	terms := nodesOf([][]api.Term{q.Where, q.Group, q.Having}, func(l []api.Term) int { return nodesOf(l, termNodes) })
	return 1 + nodesOf(q.Kids, queryNodes) + nodesOf(q.Items, itemNodes) + nodesOf(q.From, sourceNodes) + terms + len(q.Order)
}

func itemNodes(i api.Item) int {
	if i.Star {
		return 1
	}
	return 1 + termNodes(i.Term)
}

func sourceNodes(s api.Source) int {
	return 1 + nodesOf(s.On, termNodes) + nodesOf(s.Kids, sourceNodes) + nodesOf(s.Sub, queryNodes)
}

func commandNodes(c api.Command) int {
	refs := nodesOf(c.Refs, func(r api.RefDef) int { return len(r.Cols) + len(r.Keys) })
	keys := nodesOf(c.Keys, func(l []string) int { return len(l) })
	values := nodesOf(c.Rows, func(r api.Row) int { return len(r) })
	return 1 + len(c.Cols) + keys + refs + values + nodesOf(c.Query, queryNodes) + nodesOf(c.Where, termNodes)
}

// checkTree checks the tree of a source. If the tree or the source is too large, there is an error instead.
func checkTree[T any](t *testing.T, f func(string) (T, int, api.Errno), source string, want T, nodes int) {
	t.Helper()
	e := api.OK
	if nodes > 400 || len(source) > 4000 {
		var none T
		want, e = none, api.ErrLimit
	}
	got, at, err := f(source)
	if fmt.Sprintf("%+v", got) != fmt.Sprintf("%+v", want) || at != 0 || err != e {
		t.Fatalf("%.1000q (%d nodes):\n%+v, %d, %v\nwant\n%+v, %v", source, nodes, got, at, err, want, e)
	}
	checkMemory(t, source, reflect.ValueOf(got))
}

// span is the memory of a list, with its spare capacity.
type span struct {
	from, to uintptr
}

// spansOf returns the memory of all lists in a value.
func spansOf(v reflect.Value) []span {
	var l []span
	switch v.Kind() {
	case reflect.Struct:
		for i := range v.NumField() {
			l = append(l, spansOf(v.Field(i))...)
		}
	case reflect.Slice:
		if size := uintptr(v.Cap()) * v.Type().Elem().Size(); size > 0 {
			l = append(l, span{v.Pointer(), v.Pointer() + size})
		}
		for i := range v.Len() {
			l = append(l, spansOf(v.Index(i))...)
		}
	}
	return l
}

// checkMemory checks that no two lists in a tree share memory (R4).
func checkMemory(t *testing.T, source string, v reflect.Value) {
	t.Helper()
	l := spansOf(v)
	slices.SortFunc(l, func(a, b span) int { return int(a.from) - int(b.from) })
	for i := 1; i < len(l); i++ {
		if l[i-1].to > l[i].from {
			t.Fatalf("parts of the tree of %.1000q share memory", source)
		}
	}
}

// P3.1

func TestTermsByTheGrammar(t *testing.T) {
	m := maker{rand.New(rand.NewSource(2))}
	for i := range 6000 {
		s, want := m.term(i % 5)
		checkTree(t, parse.Term, s, want, termNodes(want))
	}
}

// P3.2

func TestQueriesByTheGrammar(t *testing.T) {
	m := maker{rand.New(rand.NewSource(3))}
	for i := range 6000 {
		s, want := m.query(i%5, false)
		end, _ := m.or(" ;")
		checkTree(t, parse.Query, s+end, want, queryNodes(want))
	}
}

// P3.3

func TestCommandsByTheGrammar(t *testing.T) {
	m := maker{rand.New(rand.NewSource(4))}
	for range 6000 {
		s, want := m.command()
		end, _ := m.or(" ;")
		checkTree(t, parse.Command, s+end, want, commandNodes(want))
	}
}
