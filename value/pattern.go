package value

import "strings"

// Matches returns whether a text matches a pattern.
//
// Of the bytes % only the latest one is ever given another piece: if the text matches at all, then it does so with the shortest pieces for the earlier ones. So the time is at most the product of the lengths.
func Matches(text, pattern string) bool {
	at, place := 0, 0
	after, piece := -1, 0 // the place after the latest %, and where its piece of the text ends
	for at < len(text) {
		switch {
		case place < len(pattern) && pattern[place] == '%':
			place++
			after, piece = place, at
		case place < len(pattern) && (pattern[place] == '_' || pattern[place] == text[at]):
			at++
			place++
		case after >= 0:
			piece++
			at, place = piece, after
		default:
			return false
		}
	}
	return strings.TrimLeft(pattern[place:], "%") == ""
}
