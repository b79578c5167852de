package parse_test

import (
	"math/big"
	"slices"
	"strconv"
	"strings"

	"jointer/api"
)

// The grammar of the document, with its rules about numbers, parentheses and plain queries written out: a free query is one that may be followed by ORDER BY or LIMIT, a tailed one ends with them.
const grammar = `
command   = query | EXPLAIN query
          | CREATE TABLE name "(" [ part { "," part } ] ")"
          | CREATE INDEX ON name "(" name ")"
          | DROP TABLE name | DROP INDEX ON name "(" name ")"
          | INSERT INTO name VALUES row { "," row }
          | DELETE FROM name [ WHERE term ]
          | ANALYZE [ name ] ;
part      = name type [ NOT NULL ]
          | KEY names
          | FOREIGN KEY names REFERENCES name names ;
names     = "(" name { "," name } ")" ;
type      = INT [ "(" integer TO [ "-" ] number>=lo ")" ] | BIGINT | TEXT [ "(" number<=100 ")" ] | BOOL ;
row       = "(" [ literal { "," literal } ] ")" ;
literal   = integer | text | NULL | TRUE | FALSE ;
integer   = number<2^63 | "-" number<=2^63 ;
query     = free [ tail ] | "(" tailed ")" ;
tailed    = free tail | "(" tailed ")" ;
free      = select | "(" free ")" | simple INTERSECT [ ALL ] simple { INTERSECT [ ALL ] simple }
          | meet ( UNION | EXCEPT ) [ ALL ] meet { ( UNION | EXCEPT ) [ ALL ] meet } ;
tail      = ORDER BY order { "," order } [ limit ] | limit ;
limit     = LIMIT number<2^31 [ OFFSET number<2^31 ] ;
meet      = simple { INTERSECT [ ALL ] simple } ;
simple    = select | "(" query ")" ;
select    = SELECT [ DISTINCT ] [ item { "," item } ] [ FROM source { "," source } ]
            [ WHERE term ] [ GROUP BY term { "," term } ] [ HAVING term ] ;
item      = "*" | name "." "*" | term [ AS name ] ;
order     = ( name | number>0 ) [ ASC | DESC ] ;
source    = single { join } ;
join      = CROSS JOIN single | [ INNER ] JOIN single ON term
          | ( LEFT | RIGHT | FULL ) [ OUTER ] JOIN single ON term ;
single    = name [ AS name ] | "(" query ")" AS name ;
term      = and { OR and } ;
and       = not { AND not } ;
not       = NOT not | test ;
test      = cat [ ( "=" | "<>" | "<" | "<=" | ">" | ">=" ) cat
                | IS [ NOT ] ( NULL | TRUE | DISTINCT FROM cat )
                | [ NOT ] ( LIKE cat | BETWEEN cat AND cat | IN "(" ( plain | term { "," term } ) ")" ) ] ;
cat       = sum { "||" sum } ;
sum       = product { ( "+" | "-" ) product } ;
product   = unary { ( "*" | "/" | "%" ) unary } ;
unary     = "-" unary | primary ;
primary   = literal | name [ "." name ] | "(" ( plain | term ) ")"
          | EXISTS "(" plain ")"
          | CASE WHEN term THEN term { WHEN term THEN term } [ ELSE term ] END
          | COALESCE "(" term { "," term } ")" | LENGTH "(" term ")"
          | COUNT "(" ( "*" | [ DISTINCT ] term ) ")"
          | ( SUM | MIN | MAX | AVG ) "(" [ DISTINCT ] term ")" ;
plain     = ( select { INTERSECT [ ALL ] simple } ) { ( UNION | EXCEPT ) [ ALL ] meet } [ tail ] ;
wholequery   = query [ ";" ] ;
wholecommand = command [ ";" ] ;
`

// rule is a nonterminal: one of the grammar, or brackets of it.
type rule struct {
	alternatives []*alternative
	empty        bool // it may be nothing
}

// alternative is a list of symbols that a rule stands for.
type alternative struct {
	of      *rule
	symbols []symbol
}

// symbol is a rule, or else a word that stands for tokens.
type symbol struct {
	rule *rule
	word string
}

// rules has the rules of a grammar by their names.
type rules map[string]*rule

// readRules reads a grammar, in a text whose parts are parted by blanks.
func readRules(text string) rules {
	r := rules{}
	bodies := strings.Split(text, " ;\n")
	for _, body := range bodies {
		if l := strings.Fields(body); len(l) > 0 {
			r[l[0]] = &rule{}
		}
	}
	for _, body := range bodies {
		if l := strings.Fields(body); len(l) > 0 {
			r.read(r[l[0]], l[2:], false)
		}
	}
	r.findEmpty()
	return r
}

// read reads the alternatives of a rule, up to a closing bracket, and returns what follows. If it is repeated, each of them may follow another one.
func (r rules) read(x *rule, l []string, repeated bool) []string {
	alt := &alternative{of: x}
	add := func() {
		if repeated {
			alt.symbols = append(alt.symbols, symbol{rule: x})
		}
		x.alternatives = append(x.alternatives, alt)
		alt = &alternative{of: x}
	}
	for len(l) > 0 {
		s := l[0]
		l = l[1:]
		switch s {
		case ")", "]", "}":
			add()
			return l
		case "|":
			add()
		case "(", "[", "{":
			group := &rule{}
			if s != "(" {
				group.alternatives = append(group.alternatives, &alternative{of: group})
			}
			l = r.read(group, l, s == "{")
			r[strconv.Itoa(len(r))] = group
			alt.symbols = append(alt.symbols, symbol{rule: group})
		default:
			alt.symbols = append(alt.symbols, symbol{r[s], strings.Trim(s, `"`)})
		}
	}
	add()
	return nil
}

// findEmpty finds the rules that may be nothing.
func (r rules) findEmpty() {
	nothing := func(s symbol) bool { return s.rule != nil && s.rule.empty }
	for more := true; more; {
		more = false
		for _, x := range r {
			for _, alt := range x.alternatives {
				if !x.empty && !slices.ContainsFunc(alt.symbols, func(s symbol) bool { return !nothing(s) }) {
					x.empty, more = true, true
				}
			}
		}
	}
}

// place is a place in an alternative of a rule that begins at some token.
type place struct {
	alt       *alternative
	dot, from int
}

// after returns the symbol after a place, if there is one.
func (p place) after() (symbol, bool) {
	if p.dot < len(p.alt.symbols) {
		return p.alt.symbols[p.dot], true
	}
	return symbol{}, false
}

// chart has, for each token of a prefix and for its end, the places that are possible there.
type chart struct {
	name   string
	start  *rule
	tokens []string
	sets   [][]place
}

func newChart(r rules, start string) *chart {
	c := &chart{name: start, start: r[start]}
	var first []place
	for _, alt := range c.start.alternatives {
		first = append(first, place{alt, 0, 0})
	}
	c.sets = [][]place{c.closed(first)}
	return c
}

// closed returns all places that follow from some places at the next token.
func (c *chart) closed(l []place) []place {
	seen := map[place]bool{}
	var all []place
	add := func(p place) {
		if !seen[p] {
			seen[p] = true
			all = append(all, p)
		}
	}
	for _, p := range l {
		add(p)
	}
	for i := 0; i < len(all); i++ {
		p := all[i]
		s, more := p.after()
		if !more && p.from < len(c.sets) { // what is empty is passed where it is predicted
			for _, q := range c.sets[p.from] {
				if s, _ := q.after(); s.rule == p.alt.of {
					q.dot++
					add(q)
				}
			}
		}
		if s.rule != nil {
			for _, alt := range s.rule.alternatives {
				add(place{alt, 0, len(c.sets)})
			}
			if s.rule.empty {
				p.dot++
				add(p)
			}
		}
	}
	return all
}

// push adds a token, and returns false if it cannot stand there.
func (c *chart) push(token string) bool {
	var next []place
	for _, p := range c.sets[len(c.sets)-1] {
		if s, more := p.after(); more && s.rule == nil && c.stands(token, s.word) {
			p.dot++
			next = append(next, p)
		}
	}
	if len(next) == 0 {
		return false
	}
	c.tokens = append(c.tokens, token)
	c.sets = append(c.sets, c.closed(next))
	return true
}

// pop takes the last token away.
func (c *chart) pop() {
	c.tokens = c.tokens[:len(c.tokens)-1]
	c.sets = c.sets[:len(c.sets)-1]
}

// whole returns whether the tokens are all of a source.
func (c *chart) whole() bool {
	for _, p := range c.sets[len(c.sets)-1] {
		if _, more := p.after(); !more && p.alt.of == c.start && p.from == 0 {
			return true
		}
	}
	return false
}

// wantsNumber returns whether some number can stand next.
func (c *chart) wantsNumber() bool {
	for _, p := range c.sets[len(c.sets)-1] {
		if s, _ := p.after(); strings.HasPrefix(s.word, "number") {
			return true
		}
	}
	return false
}

func isNumber(token string) bool { return token[0] >= '0' && token[0] <= '9' }

// stands returns whether a token is what a symbol of the grammar stands for.
func (c *chart) stands(token, symbol string) bool {
	switch {
	case strings.HasPrefix(symbol, "number"):
		return isNumber(token) && c.inRange(token, symbol)
	case symbol == "text":
		return token[0] == '\''
	case symbol == "name":
		return token[0] >= 'a' && token[0] <= 'z' || token[0] == '_'
	}
	return token == symbol
}

func (c *chart) inRange(token, symbol string) bool {
	n, _ := new(big.Int).SetString(token, 10)
	power := func(bits uint) *big.Int { return new(big.Int).Lsh(big.NewInt(1), bits) }
	switch symbol {
	case "number<=100":
		return n.Cmp(big.NewInt(100)) <= 0
	case "number<2^31":
		return n.Cmp(power(31)) < 0
	case "number>0":
		return n.Cmp(power(31)) < 0 && n.Sign() > 0
	case "number<2^63":
		return n.Cmp(power(63)) < 0
	case "number<=2^63":
		return n.Cmp(power(63)) <= 0
	}
	if symbol != "number>=lo" {
		panic(symbol)
	}
	return c.notBelow(n)
}

// notBelow returns whether the number n, with the sign before it, is a bound that is not below the one before TO.
func (c *chart) notBelow(n *big.Int) bool {
	signed := func(n *big.Int, before string) *big.Int {
		if before == "-" {
			return new(big.Int).Neg(n)
		}
		return n
	}
	last := len(c.tokens) - 1
	n = signed(n, c.tokens[last])
	if c.tokens[last] == "-" {
		last--
	}
	lo, _ := new(big.Int).SetString(c.tokens[last-1], 10)
	return n.IsInt64() && n.Cmp(signed(lo, c.tokens[last-2])) >= 0
}

// verdict is what the document says of a source with the tokens of the chart, and one more, which are parted by blanks: the place of an error, or OK.
func (c *chart) verdict(token string) (int, api.Errno) {
	at := len(strings.Join(c.tokens, " "))
	if at > 0 {
		at++
	}
	if c.push(token) {
		defer c.pop()
		if c.whole() {
			return 0, api.OK
		}
		return at + len(token), api.ErrSyntax
	}
	if isNumber(token) && c.wantsNumber() {
		return at, api.ErrNumber
	}
	return at, api.ErrSyntax
}
