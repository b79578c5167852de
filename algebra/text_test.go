package algebra_test

import (
	"strings"
	"testing"

	"jointer/algebra"
	"jointer/api"
)

// P8.4

// texts are texts of formed plans.
var texts = []string{
	example, "rows[int bool: (1, TRUE), (NULL, FALSE)]", "rows[:]", "rows[: (), ()]", "rows[null int text bool:]", "rows[text: ('it''s, (so)'), (''), ('''')]", "rows[int: (-9223372036854775808), (9223372036854775807), (0), (-1)]",
	"scan[0]", "scan[10]", "scan[2147483647]", "filter[](scan[0])", "filter[TRUE, c0, c0^1](scan[0])", "project[](scan[0])", "project[c0, c2147483647^2147483647, NULL, 'a', -5, FALSE](scan[0])",
	"inner[](scan[0], scan[1])", "left[c0](scan[0], scan[1])", "full[c0, c1](scan[0], scan[1])", "semi[TRUE](scan[0], scan[1])", "anti[](scan[0], scan[1])", "notin[add(c0, 1)](scan[0], scan[1])",
	"group[0: rows, sum distinct 1](scan[1])", "group[:](scan[0])", "group[0 1 2147483647:](scan[0])", "group[: rows, count 0, sum 1, min 2, max 3, avg 4, count distinct 5, sum distinct 6, min distinct 7, max distinct 8, avg distinct 9](scan[0])",
	"distinct(scan[0])", "sort[](scan[0])", "sort[0, 1 desc, 10](scan[0])", "limit[0 desc, 1; 5; 10](scan[0])", "limit[; 0; 2147483647](scan[0])", "union(scan[0], scan[0])", "intersect(scan[0], scan[0])", "except(distinct(scan[0]), union(scan[0], scan[0]))",
	"project[neg(1), add(1, 2), sub(), mul(c0), div(1, 2, 3), mod(1), concat('', 'a'), length(c0), eq(), ne(), lt(), le(), gt(), ge(), same(), like(), isnull(), istrue(), not(), and(), or(), case(), coalesce()](scan[0])",
	"filter[exists{scan[0]}, scalar{rows[:]}, in(c0, {scan[1]}), in(in(1, {scan[0]}), {filter[exists{scan[1]}](scan[0])})](scan[0])",
}

func TestTexts(t *testing.T) {
	for _, text := range texts {
		if s, e := printed(t, read(t, text)); s != text || e != api.OK {
			t.Errorf("Print of what Read(%q) returned is %q, %v", text, s, e)
		}
	}
	// All words stand among the texts.
	all := strings.Join(texts, " ")
	for _, words := range [][]string{refWords, refPlanWords, refAggWords, refKindWords} {
		for _, word := range words {
			if !strings.Contains(all, word) {
				t.Errorf("no text has the word %s", word)
			}
		}
	}
}

func TestNoTexts(t *testing.T) {
	for _, text := range []string{
		"", " ", "scan", "scan[", "scan[]", "scan[0", "scan[0] ", " scan[0]", "scan [0]", "scan[ 0]", "scan[00]", "scan[-0]", "scan[-1]", "scan[+1]", "scan[2147483648]", "scan[9223372036854775808]", "scan[x]", "scan['0']", "scan[0](scan[0])", "scan[0]()", "Scan[0]", "scans[0]", "table[0]", "()",
		"rows[]", "rows[ int:]", "rows[int:] ", "rows[int: ]", "rows[int:(1)]", "rows[int: (1),]", "rows[int: (1),(2)]", "rows[int: (1) ]", "rows[int: 1]", "rows[int: (1, 2)]", "rows[int: ()]", "rows[: (1)]", "rows[int: ('a')]", "rows[null: (1)]", "rows[text: (1)]", "rows[bool: (1)]", "rows[int int: (1)]", "rows[int, int:]", "rows[int  int:]", "rows[integer:]", "rows[int :]", "rows[:](scan[0])", "rows[:]()", "rows",
		"rows[int: (01)]", "rows[int: (-0)]", "rows[int: (+1)]", "rows[int: (9223372036854775808)]", "rows[int: (1-1)]", "rows[int: (null)]", "rows[bool: (true)]", "rows[bool: (TRUEFALSE)]", "rows[text: ('a)]", "rows[text: (')]", "rows[text: (a)]", "rows[text: ('a'b')]", "rows[text: ('" + strings.Repeat("a", 101) + "')]", "rows[int: ( 1)]", "rows[int: (NULL]", "rows[int: (1), ]",
		"sort[0 asc](scan[0])", "sort[0  desc](scan[0])", "sort[desc](scan[0])", "sort[0 desc desc](scan[0])", "sort[0,1](scan[0])", "sort[0 1](scan[0])", "sort[0, ](scan[0])", "sort[c0](scan[0])", "sort[0]", "sort[0]()", "sort[0](scan[0], scan[0])", "sort(scan[0])",
		"limit[0; 1](scan[0])", "limit[0; 1; 2; 3](scan[0])", "limit[1; 2](scan[0])", "limit[;0;0](scan[0])", "limit[0 ; 1; 2](scan[0])", "limit[0; ; 2](scan[0])", "limit[0; 1; ](scan[0])", "limit[; 0; -1](scan[0])", "limit[; 0; 2147483648](scan[0])", "limit[0, ; 1; 2](scan[0])",
		"group[](scan[0])", "group[0](scan[0])", "group[0, 1:](scan[0])", "group[0 : rows](scan[0])", "group[0:rows](scan[0])", "group[0: ](scan[0])", "group[0: rows 1](scan[0])", "group[: rows distinct](scan[0])", "group[: count](scan[0])", "group[: distinct count 1](scan[0])", "group[: sum distinct](scan[0])", "group[: sum distinct1](scan[0])", "group[: sum  1](scan[0])", "group[: total 1](scan[0])", "group[: rows,rows](scan[0])", "group[: Rows](scan[0])",
		"filter[c0 ](scan[0])", "filter[ c0](scan[0])", "filter[c0,c1](scan[0])", "filter[c0, ](scan[0])", "filter[, c0](scan[0])", "filter[c0^0](scan[0])", "filter[c0^01](scan[0])", "filter[c0^](scan[0])", "filter[c0 ^1](scan[0])", "filter[c0^1^1](scan[0])", "filter[c](scan[0])", "filter[c-1](scan[0])", "filter[c00](scan[0])", "filter[c2147483648](scan[0])", "filter[c0^2147483648](scan[0])", "filter[C0](scan[0])", "filter[d0](scan[0])", "filter[cc0](scan[0])",
		"filter[null](scan[0])", "filter[Null](scan[0])", "filter[()](scan[0])", "filter[eq](scan[0])", "filter[eq (c0)](scan[0])", "filter[eq(c0](scan[0])", "filter[eq(c0,c1)](scan[0])", "filter[eq(c0 , c1)](scan[0])", "filter[eq( c0)](scan[0])", "filter[eq{scan[0]}](scan[0])", "filter[name(c0)](scan[0])", "filter[column(c0)](scan[0])", "filter[const(1)](scan[0])", "filter[''(1)](scan[0])", "filter[is(c0)](scan[0])",
		"filter[exists(scan[0])](scan[0])", "filter[exists{}](scan[0])", "filter[exists{scan[0]](scan[0])", "filter[exists {scan[0]}](scan[0])", "filter[exists{scan[0], scan[0]}](scan[0])", "filter[exists{c0}](scan[0])", "filter[exists{filter}](scan[0])", "filter[scalar{scan[0] }](scan[0])",
		"filter[in(c0)](scan[0])", "filter[in(c0, scan[0])](scan[0])", "filter[in({scan[0]})](scan[0])", "filter[in(c0,{scan[0]})](scan[0])", "filter[in(c0, c1, {scan[0]})](scan[0])", "filter[in(c0, {scan[0]}](scan[0])", "filter[in{scan[0]}](scan[0])", "filter[in(c0, {scan[0]}, {scan[0]})](scan[0])",
		"filter(scan[0])", "filter[c0]", "filter[c0]()", "filter[c0](scan[0], scan[0])", "filter[c0](scan[0]", "filter[c0](scan[0]))", "filter[c0] (scan[0])", "filter[c0](scan[0] )", "filter[c0]( scan[0])", "filter[c0](scan[0],)", "filter[c0](c0)",
		"union", "union()", "union(scan[0])", "union[](scan[0], scan[0])", "union(scan[0],scan[0])", "union(scan[0], scan[0], scan[0])", "union(scan[0] scan[0])", "distinct[](scan[0])", "distinct(scan[0], scan[0])", "distinct", "notin[](scan[0], scan[0])", "notin[c0, c1](scan[0], scan[0])", "notin[c0](scan[0])", "inner[](scan[0])", "left(scan[0], scan[0])", "project(scan[0])", "project[c0]",
	} {
		if p, e := readText(t, text); e != api.ErrText || !same(p, api.Plan{}) {
			t.Errorf("Read(%q) is %+v, %v", text, p, e)
		}
	}
}

// TestChangedTexts takes each byte out of the texts, and puts others before it and in its place.
func TestChangedTexts(t *testing.T) {
	good := 0
	for _, text := range texts {
		for i := range text {
			for _, s := range []string{"", "0", "1", " ", ",", ", ", "'", "(", ")", "[", "]", "{", "}", "-", "c", "a", "A", "^", ":", ";", "\x00", "\xff"} {
				for _, changed := range []string{text[:i] + s + text[i:], text[:i] + s + text[i+1:]} {
					if p, e := readText(t, changed); e == api.OK {
						good++
						if s, e := algebra.Print(p); s != changed || e != api.OK {
							t.Errorf("Print of what Read(%q) returned is %q, %v", changed, s, e)
						}
					}
				}
			}
			if _, e := readText(t, text[:i]); e == api.OK {
				t.Errorf("the beginning %q is a text", text[:i])
			}
		}
		if t.Failed() {
			return
		}
	}
	if good < 1000 {
		t.Errorf("only %d changed texts are texts", good)
	}
}

// TestOneText makes sure that plans that differ in one field have different texts.
func TestOneText(t *testing.T) {
	seen := map[string]api.Plan{}
	m := newMaker(5)
	m.s = plain()
	n := 0
	for range 300 {
		p, _ := m.plan(4, nil)
		for range 10 {
			q := clone(p)
			m.change(&q)
			s, e := algebra.Print(q)
			if e != api.OK {
				continue
			}
			if other, ok := seen[s]; ok && !same(q, other) {
				t.Fatalf("%+v and %+v have the text %q", q, other, s)
			}
			seen[s] = q
			n++
		}
	}
	if n < 800 {
		t.Errorf("only %d plans were formed", n)
	}
}
