package terms

import (
	"cmp"
	"slices"
	"strings"

	"usher/api"
)

// marks are the bytes that may stand for themselves in a path without being unreserved.
const marks = "!$&'()*+,;="

// isWord: is s one byte or more, up to so many, each of which may be there?
func isWord(s string, most int, mayBe func(byte) bool) bool {
	return s != "" && len(s) <= most && all(s, mayBe)
}

func all(s string, mayBe func(byte) bool) bool {
	for i := range len(s) {
		if !mayBe(s[i]) {
			return false
		}
	}
	return true
}

func isVisible(b byte) bool {
	return 0x21 <= b && b <= 0x7e
}

func isPrintable(b byte) bool {
	return b == ' ' || isVisible(b)
}

func isScopeByte(b byte) bool {
	return isVisible(b) && b != '"' && b != '\\'
}

func isSmallLetter(b byte) bool {
	return 'a' <= b && b <= 'z'
}

func isLetter(b byte) bool {
	return isSmallLetter(b) || 'A' <= b && b <= 'Z'
}

func isDigit(b byte) bool {
	return '0' <= b && b <= '9'
}

func isHexDigit(b byte) bool {
	return isDigit(b) || 'a' <= b && b <= 'f' || 'A' <= b && b <= 'F'
}

// isPathByte leaves out the percent sign: it stands only where an escape begins.
func isPathByte(b byte) bool {
	return isLetter(b) || isDigit(b) || among("-._~:@", b) || among(marks, b)
}

func isLabelByte(b byte) bool {
	return isLetter(b) || isDigit(b) || b == '-'
}

// isNumberByte: may b stand between the brackets of a host that is a number?
func isNumberByte(b byte) bool {
	return isHexDigit(b) || b == ':' || b == '.'
}

func isSchemeByte(b byte) bool {
	return isSmallLetter(b) || isDigit(b) || among("+-.", b)
}

func among(bytes string, b byte) bool {
	return strings.IndexByte(bytes, b) >= 0
}

// areScopes: is s scopes with one blank between each two? Two blanks, or one at an end, have an empty text beside them, which is no scope.
func areScopes(s string) bool {
	for scope := range strings.SplitSeq(s, " ") {
		if !isWord(scope, api.MaxScope, isScopeByte) {
			return false
		}
	}
	return true
}

// risingOnce is the things of a list in order, each once.
func risingOnce[T cmp.Ordered](list []T) []T {
	sorted := slices.Clone(list)
	slices.Sort(sorted)
	return slices.Compact(sorted)
}
