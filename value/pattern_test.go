package value_test

import (
	"strings"
	"testing"

	"jointer/value"
)

// words returns all texts of at most n of some bytes.
func words(bytes string, n int) []string {
	l := []string{""}
	for from := 0; n > 0; n-- {
		to := len(l)
		for _, w := range l[from:to] {
			for i := range len(bytes) {
				l = append(l, w+bytes[i:i+1])
			}
		}
		from = to
	}
	return l
}

// fits says what a pattern means, without regard to time.
func fits(text, pattern string) bool {
	if pattern == "" {
		return text == ""
	}
	if pattern[0] == '%' {
		return fits(text, pattern[1:]) || text != "" && fits(text[1:], pattern)
	}
	return text != "" && (pattern[0] == '_' || pattern[0] == text[0]) && fits(text[1:], pattern[1:])
}

// P1.4

func TestMatchesAllShortOnes(t *testing.T) {
	for _, text := range words("ab", 6) {
		for _, pattern := range words("ab%_", 5) {
			if value.Matches(text, pattern) != fits(text, pattern) {
				t.Fatalf("Matches(%q, %q) is %v", text, pattern, !fits(text, pattern))
			}
		}
	}
	for _, text := range words("a%_", 4) {
		for _, pattern := range words("a%_", 5) {
			if value.Matches(text, pattern) != fits(text, pattern) {
				t.Fatalf("Matches(%q, %q) is %v", text, pattern, !fits(text, pattern))
			}
		}
	}
}

func TestMatchesOfTheDocument(t *testing.T) {
	for _, x := range []struct {
		text, pattern string
		is            bool
	}{
		{"abc", "a%", true}, {"abc", "_b_", true}, {"abc", "b%", false}, {"", "_", false}, {"", "%%", true},
		{"", "", true}, {"a", "", false}, {"abc", "abc", true}, {"abc", "ABC", false}, {"abc", "ab", false}, {"ab", "abc", false},
	} {
		if is := value.Matches(x.text, x.pattern); is != x.is {
			t.Errorf("Matches(%q, %q) is %v", x.text, x.pattern, is)
		}
	}
}

func TestMatchesGoesByBytes(t *testing.T) {
	for _, x := range []struct {
		text, pattern string
		is            bool
	}{
		{"é", "_", false}, {"é", "__", true}, {"é", "\xc3%", true}, {"\xff\x00", "\xff_", true}, {"\xff", "\xfe", false},
		{"a\nb", "a_b", true}, {"a\\%", "a\\%", true}, {"a\\b", "a\\%", true}, {"100%", "100%", true}, {"[a]", "[a]", true}, {"a", "[a]", false}, {"a*", "a*", true}, {"aa", "a*", false},
	} {
		if is := value.Matches(x.text, x.pattern); is != x.is {
			t.Errorf("Matches(%q, %q) is %v", x.text, x.pattern, is)
		}
	}
	for _, s := range allBytes() {
		if !value.Matches(s, "_") || !value.Matches(s, s) || !value.Matches(s, "%") || value.Matches(s+s, "_") {
			t.Errorf("the byte %q is not one byte", s)
		}
	}
}

func TestMatchesLongOnes(t *testing.T) {
	long := strings.Repeat("a", 100000)
	many := strings.Repeat("a%", 1000)
	for _, x := range []struct {
		text, pattern string
		is            bool
	}{
		{long, "%", true}, {long, long, true}, {long, long + "a", false}, {long, long + "%", true}, {long + "b", "%b", true}, {long, "%b", false},
		{long, many, true}, {long, many + "b", false}, {long + "b", many + "b", true}, {long, "%" + many + "b%", false}, {strings.Repeat("a", 999), many, false},
		{long, strings.Repeat("%", 100000), true}, {"", strings.Repeat("%", 100000), true}, {long, strings.Repeat("%_", 1000) + "b", false}, {long, strings.Repeat("_", 100000), true}, {long, strings.Repeat("_", 99999), false},
	} {
		if is := value.Matches(x.text, x.pattern); is != x.is {
			t.Errorf("Matches of %d and %d bytes is %v", len(x.text), len(x.pattern), is)
		}
	}
}
