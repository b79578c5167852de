package parse_test

import (
	"math/rand"
	"reflect"
	"slices"
	"strings"
	"testing"

	"jointer/api"
	"jointer/parse"
)

// tokens are all keywords and marks, and names, texts and numbers on both sides of each limit.
var tokens = strings.Fields(`
ALL ANALYZE AND AS ASC AVG BETWEEN BIGINT BOOL BY CASE COALESCE COUNT CREATE CROSS DELETE DESC DISTINCT DROP ELSE END EXCEPT EXISTS
EXPLAIN FALSE FOREIGN FROM FULL GROUP HAVING IN INDEX INNER INSERT INT INTERSECT INTO IS JOIN KEY LEFT LENGTH LIKE LIMIT MAX MIN NOT NULL
OFFSET ON OR ORDER OUTER REFERENCES RIGHT SELECT SUM TABLE TEXT THEN TO TRUE UNION VALUES WHEN WHERE
<> <= >= || ( ) , . ; * + - / % = < >
a bc '' 'x' '(' 'SELECT' '-' '*' '.' ';' 'a'
0 007 5 100 101 2147483647 2147483648 9223372036854775807 9223372036854775808`)

// fault is what a function of the package says of a source, but for the tree.
type fault func(source string) (int, api.Errno, bool)

// faultOf returns the fault of a function; it says false if there is a tree together with an error.
func faultOf[T any](f func(string) (T, int, api.Errno)) fault {
	return func(source string) (int, api.Errno, bool) {
		tree, at, e := f(source)
		return at, e, e == api.OK || reflect.ValueOf(tree).IsZero()
	}
}

// faces are the functions of the package, by their nonterminals.
var faces = map[string]fault{"term": faultOf(parse.Term), "wholequery": faultOf(parse.Query), "wholecommand": faultOf(parse.Command)}

// checkFault checks the place of an error, and that there is no tree then.
func checkFault(t *testing.T, f fault, source string, at int, e api.Errno) {
	t.Helper()
	if gotAt, got, ok := f(source); gotAt != at || got != e || !ok {
		t.Errorf("%.300q (%d bytes): %d, %v, %v; want %d, %v", source, len(source), gotAt, got, ok, at, e)
	}
}

// checkNext checks a source with the tokens of a chart, and with each token after them.
func checkNext(t *testing.T, c *chart) {
	t.Helper()
	prefix := strings.Join(append(c.tokens[:len(c.tokens):len(c.tokens)], ""), " ")
	for _, token := range tokens {
		at, e := c.verdict(token)
		checkFault(t, faces[c.name], prefix+token, at, e)
	}
}

// checkAll checks all sources of at most n tokens more than the chart has: the last one is any token, the others are some of each sort.
func checkAll(t *testing.T, c *chart, n int, some []string) {
	t.Helper()
	checkNext(t, c)
	if n == 1 {
		return
	}
	for _, token := range some {
		if c.push(token) {
			checkAll(t, c, n-1, some)
			c.pop()
		}
	}
}

// with begins a chart with some tokens.
func with(start, prefix string) *chart {
	c := newChart(readRules(grammar), start)
	for _, token := range strings.Fields(prefix) {
		if !c.push(token) {
			panic(prefix)
		}
	}
	return c
}

// P3.1, P3.2, P3.3: the first token that cannot stand where it does.

func TestErrorsOfAllShortSources(t *testing.T) {
	for start, f := range faces {
		checkFault(t, f, "", 0, api.ErrSyntax)
		checkAll(t, with(start, ""), 3, tokens)
	}
}

func TestErrorsOfAllShortEnds(t *testing.T) {
	for _, x := range []struct {
		start, prefix string
		n             int
	}{
		{"term", "NOT a", 3}, {"term", "a IN ( 1", 3}, {"term", "a BETWEEN 1 AND", 3}, {"term", "CASE WHEN a", 3}, {"term", "( SELECT a", 3}, {"term", "a IS NOT", 3}, {"term", "COUNT (", 3},
		{"wholequery", "SELECT a FROM a", 3}, {"wholequery", "( ( SELECT LIMIT 1 )", 3}, {"wholequery", "( SELECT ORDER BY a )", 3}, {"wholequery", "( SELECT )", 3}, {"wholequery", "SELECT FROM ( ( SELECT LIMIT 1 )", 3}, {"wholequery", "SELECT ORDER BY", 4}, {"wholequery", "SELECT a . a", 3}, {"wholequery", "SELECT FROM a LEFT", 3}, {"wholequery", "SELECT FROM a JOIN a ON a", 3}, {"wholequery", "SELECT UNION ( SELECT LIMIT 1 )", 3},
		{"wholecommand", "CREATE TABLE a (", 3}, {"wholecommand", "CREATE TABLE a ( a INT (", 5}, {"wholecommand", "CREATE TABLE a ( a INT ( - 5 TO", 3}, {"wholecommand", "CREATE TABLE a ( a INT ( 101 TO", 3}, {"wholecommand", "CREATE TABLE a ( a TEXT", 5}, {"wholecommand", "CREATE TABLE a ( FOREIGN KEY ( a", 6}, {"wholecommand", "CREATE INDEX ON a", 4}, {"wholecommand", "DROP INDEX ON a", 4}, {"wholecommand", "DROP TABLE a", 2}, {"wholecommand", "INSERT INTO a VALUES", 4}, {"wholecommand", "DELETE FROM a", 3}, {"wholecommand", "ANALYZE a", 2}, {"wholecommand", "EXPLAIN SELECT", 2},
	} {
		checkAll(t, with(x.start, x.prefix), x.n, tokens)
	}
}

// pushSome adds a random token that can stand there, and returns false if there is none.
func pushSome(c *chart, r *rand.Rand) bool {
	for _, i := range r.Perm(len(tokens)) {
		if c.push(tokens[i]) {
			return true
		}
	}
	return false
}

func TestErrorsOfLongSources(t *testing.T) {
	r := rand.New(rand.NewSource(1))
	for start := range faces {
		for range 30 {
			c := with(start, "")
			for more := true; more && len(c.tokens) < 40; more = pushSome(c, r) {
				checkNext(t, c)
			}
		}
	}
}

// checkWhole checks a source of some tokens, of which each one may be wrong.
func checkWhole(t *testing.T, c *chart, l []string) {
	t.Helper()
	end := 0
	for i, token := range l {
		at, e := c.verdict(token)
		end += len(token) + 1
		if i == len(l)-1 || at < end-1 && e != api.OK { // the last one, or one that cannot stand there
			checkFault(t, faces[c.name], strings.Join(l, " "), at, e)
			break
		}
		c.push(token)
	}
	for len(c.tokens) > 0 {
		c.pop()
	}
}

func TestErrorsOfChangedSources(t *testing.T) {
	r := rand.New(rand.NewSource(5))
	c := with("wholecommand", "")
	for n := 0; n < 3000; {
		s, tree := maker{r}.command()
		l := strings.Fields(s)
		if len(l) > 60 || commandNodes(tree) > 300 {
			continue
		}
		n++
		i, j, token := r.Intn(len(l)), r.Intn(len(l)), tokens[r.Intn(len(tokens))]
		checkWhole(t, c, slices.Delete(slices.Clone(l), i, i+1))
		checkWhole(t, c, slices.Insert(slices.Clone(l), i, token))
		checkWhole(t, c, slices.Insert(slices.Clone(l), i, l[j]))
		l[i], l[j] = l[j], l[i]
		checkWhole(t, c, l)
	}
}
