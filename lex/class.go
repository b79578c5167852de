package lex

// class is what a byte is, as far as tokens are concerned.
type class uint8

const (
	other class = iota // it begins a mark, or no token at all
	blank
	small
	capital
	underscore
	digit
	quote
)

func classOf(b byte) class {
	switch {
	case 'a' <= b && b <= 'z':
		return small
	case 'A' <= b && b <= 'Z':
		return capital
	case '0' <= b && b <= '9':
		return digit
	}
	switch b {
	case ' ', '\t', '\n', '\r':
		return blank
	case '_':
		return underscore
	case '\'':
		return quote
	}
	return other
}

// runEnd returns the first place, from at on, whose byte is of none of the classes.
func runEnd(source string, at int, classes ...class) int {
run:
	for ; at < len(source); at++ {
		is := classOf(source[at])
		for _, c := range classes {
			if c == is {
				continue run
			}
		}
		break
	}
	return at
}
