package show_test

import (
	"math/rand"
	"reflect"
	"strings"
	"testing"

	"jointer/api"
	"jointer/lex"
	"jointer/parse"
	"jointer/show"
)

// face is what the package, the reference and package parse say of one sort of trees.
type face[T any] struct {
	sort    string
	valid   func(T) bool
	show    func(T) (string, api.Errno)
	isValid func(T) bool
	nodes   func(T) int
	parse   func(string) (T, int, api.Errno)
}

var (
	terms    = face[api.Term]{"term", show.ValidTerm, show.Term, isTerm, termNodes, parse.Term}
	queries  = face[api.Query]{"query", show.ValidQuery, show.Query, isQuery, queryNodes, parse.Query}
	commands = face[api.Command]{"command", show.ValidCommand, show.Command, isCommand, commandNodes, parse.Command}
)

// same returns whether two trees are the same, where empty lists are nil.
func same(a, b any) bool {
	return reflect.DeepEqual(cloned(reflect.ValueOf(a)).Interface(), cloned(reflect.ValueOf(b)).Interface())
}

// cloned returns a copy that shares no memory, and has no list that is empty but not nil.
func cloned(v reflect.Value) reflect.Value {
	c := reflect.New(v.Type()).Elem()
	switch v.Kind() {
	case reflect.Slice:
		if v.Len() > 0 {
			c.Set(reflect.MakeSlice(v.Type(), v.Len(), v.Len()))
		}
		for i := range v.Len() {
			c.Index(i).Set(cloned(v.Index(i)))
		}
	case reflect.Struct:
		for i := range v.NumField() {
			c.Field(i).Set(cloned(v.Field(i)))
		}
	default:
		c.Set(v)
	}
	return c
}

func cloneOf[T any](x T) T { return cloned(reflect.ValueOf(x)).Interface().(T) }

// checkInvalid checks that a tree is not valid (P4.1), and has no source (P4.2).
func (f face[T]) checkInvalid(t *testing.T, tree T) {
	t.Helper()
	if f.valid(tree) {
		t.Errorf("the %s %+v is valid", f.sort, tree)
	}
	if s, e := f.show(tree); s != "" || e != api.ErrArg {
		t.Errorf("the %s %+v: %q, %v", f.sort, tree, s, e)
	}
}

// checkValid checks that a tree is valid (P4.1), and that its source, if it is not too long, has this tree (P4.2, P4.3). It returns the source.
func (f face[T]) checkValid(t *testing.T, tree T) string {
	t.Helper()
	before := cloneOf(tree)
	if !f.valid(tree) {
		t.Errorf("the %s %+v is not valid", f.sort, tree)
	}
	s, e := f.show(tree)
	if !same(tree, before) {
		t.Errorf("the %s %+v was changed", f.sort, before)
	}
	if e == api.ErrLimit && s == "" {
		return ""
	}
	if got, at, err := f.parse(s); len(s) > 4000 || e != api.OK || err != api.OK || !same(got, tree) {
		t.Errorf("the %s %+v: %q, %v; its tree: %+v, %d, %v", f.sort, tree, s, e, got, at, err)
	}
	return s
}

// check checks what is said of a tree: that it is valid where the reference says so.
func (f face[T]) check(t *testing.T, tree T) {
	t.Helper()
	if f.isValid(tree) && f.nodes(tree) <= 400 {
		f.checkValid(t, tree)
	} else {
		f.checkInvalid(t, tree)
	}
}

// checkSource checks a tree, and its source if that is not too long (P4.2).
func (f face[T]) checkSource(t *testing.T, tree T, source string) {
	t.Helper()
	f.check(t, tree)
	if f.nodes(tree) > 400 {
		return
	}
	want, e := source, api.OK
	if len(source) > 4000 {
		want, e = "", api.ErrLimit
	}
	if s, err := f.show(tree); s != want || err != e {
		t.Errorf("the %s %+v: %q, %v; want %q (%d bytes)", f.sort, tree, s, err, source, len(source))
	}
}

// checkRead checks that the tree of a source, if there is one, is valid (P4.4), and whether it has the source want.
func (f face[T]) checkRead(t *testing.T, source, want string) {
	t.Helper()
	tree, at, e := f.parse(source)
	if e != api.OK {
		t.Fatalf("%q: %v at %d", source, e, at)
	}
	if s := f.checkValid(t, tree); s != want {
		t.Errorf("%q: %q, want %q", source, s, want)
	}
}

// checkChanged checks the trees of the sources that come of a source when some of its tokens are taken away, doubled, or put elsewhere (P4.4). It returns how many there are.
func (f face[T]) checkChanged(t *testing.T, r *rand.Rand, source string) int {
	t.Helper()
	n := 0
	l, _, _ := lex.Tokens(source)
	for range 20 {
		changed := append([]api.Token(nil), l...)
		i, j := r.Intn(len(l)), r.Intn(len(l))
		switch r.Intn(3) {
		case 0:
			changed = append(changed[:i], changed[i+1:]...)
		case 1:
			changed = append(changed[:i], append([]api.Token{l[j]}, changed[i:]...)...)
		case 2:
			changed[i], changed[j] = changed[j], changed[i]
		}
		s, _ := lex.Join(changed)
		if tree, _, e := f.parse(s); e == api.OK {
			n++
			f.check(t, tree)
		}
	}
	return n
}

// checkShortest checks that whatever may be left out of a source is left out: no one or two tokens, and no parentheses (P4.2).
func (f face[T]) checkShortest(t *testing.T, tree T, source string) {
	t.Helper()
	l, _, _ := lex.Tokens(source)
	for i := range l {
		for _, without := range [][]int{{i}, {i, i + 1}, {i, closing(l, i)}} {
			var rest []api.Token
			for j, token := range l {
				if j != without[0] && j != without[len(without)-1] {
					rest = append(rest, token)
				}
			}
			s, _ := lex.Join(rest)
			if got, _, e := f.parse(s); e == api.OK && same(got, tree) {
				t.Errorf("%q could be %q", source, s)
			}
		}
	}
}

// closing returns the number of the parenthesis that closes the one with the number i, or i if that is none.
func closing(l []api.Token, i int) int {
	depth := 0
	for j := i; j < len(l); j++ {
		if l[j].Kind == api.TokenMark {
			depth += strings.Count(l[j].Text, "(") - strings.Count(l[j].Text, ")")
		}
		if depth <= 0 {
			return j
		}
	}
	return i
}

// changer changes a part of a tree.
type changer struct {
	*rand.Rand
	parts []reflect.Value // all fields and elements of the tree
}

// collect adds the fields and elements of a value.
func (c *changer) collect(v reflect.Value) {
	switch v.Kind() {
	case reflect.Slice:
		c.parts = append(c.parts, v)
		for i := range v.Len() {
			c.collect(v.Index(i))
		}
	case reflect.Struct:
		for i := range v.NumField() {
			c.collect(v.Field(i))
		}
	default:
		c.parts = append(c.parts, v)
	}
}

// change changes a field or an element, or the length of a list.
func (c *changer) change() {
	v := c.parts[c.Intn(len(c.parts))]
	switch v.Kind() {
	case reflect.Slice:
		c.changeList(v)
	case reflect.String:
		v.SetString([]string{"", "a", "b_2", "A", "1a", "from", "a b", "é", strings.Repeat("x", 20), strings.Repeat("x", 21), strings.Repeat("'", 101)}[c.Intn(11)])
	case reflect.Bool:
		v.SetBool(!v.Bool())
	case reflect.Uint8:
		v.SetUint([]uint64{uint64(c.Intn(5)), uint64(c.Intn(33)), uint64(c.Intn(256))}[c.Intn(3)])
	default:
		v.SetInt([]int64{0, 0, 1, 2, 100, 101, 1<<31 - 1, 1 << 31, -1, 1<<63 - 1, -1 << 63}[c.Intn(11)])
	}
}

// changeList changes the length of a list, or sets another one of the tree in its place.
func (c *changer) changeList(v reflect.Value) {
	n := v.Len()
	switch c.Intn(5) {
	case 0:
		v.Set(reflect.MakeSlice(v.Type(), 0, 1))
	case 1:
		if n > 0 {
			v.Set(v.Slice(0, n-1))
		}
	case 2:
		v.Set(reflect.Append(v, reflect.Zero(v.Type().Elem())))
	default:
		for range 20 {
			if other := c.parts[c.Intn(len(c.parts))]; other.Type() == v.Type() {
				v.Set(cloned(other))
				return
			}
		}
	}
}

// checkParts checks trees that come of a valid tree when one or two of its parts are changed (P4.1, P4.2). It returns how many of them are valid, and how many are not.
func (f face[T]) checkParts(t *testing.T, r *rand.Rand, tree T) (valid, not int) {
	t.Helper()
	for range 20 {
		changed := cloneOf(tree)
		for range 1 + r.Intn(2) {
			c := changer{Rand: r}
			c.collect(reflect.ValueOf(&changed).Elem())
			c.change()
		}
		f.check(t, changed)
		if f.valid(changed) {
			valid++
		} else {
			not++
		}
	}
	return valid, not
}
