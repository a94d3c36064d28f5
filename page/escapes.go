package page

import "strings"

// escapes are the bytes that would be markup where they stood by themselves, with how they are written instead.
var escapes = [5]struct {
	char    byte
	written string
}{
	{'&', "&amp;"}, {'<', "&lt;"}, {'>', "&gt;"}, {'"', "&quot;"}, {'\'', "&#39;"},
}

// escapeOf is how one of the five bytes is written; nothing for every other byte.
func escapeOf(char byte) string {
	for n := range len(escapes) {
		if escapes[n].char == char {
			return escapes[n].written
		}
	}
	return ""
}

// firstChar is the byte that a text begins with, and how many bytes it is written with there: none, if no escaped text begins so.
func firstChar(s string) (byte, int) {
	if escapeOf(s[0]) == "" {
		return s[0], 1
	}
	for n := range len(escapes) {
		if strings.HasPrefix(s, escapes[n].written) {
			return escapes[n].char, len(escapes[n].written)
		}
	}
	return 0, 0
}
