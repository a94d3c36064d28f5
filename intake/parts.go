package intake

import "strings"

func isDigit(b byte) bool {
	return '0' <= b && b <= '9'
}

// isVisible: may this byte stand in a target?
func isVisible(b byte) bool {
	return 0x21 <= b && b <= 0x7e
}

func all(s string, mayBe func(byte) bool) bool {
	for i := range len(s) {
		if !mayBe(s[i]) {
			return false
		}
	}
	return true
}

func isVersion(s string) bool {
	digits, found := strings.CutPrefix(s, "HTTP/")
	return found && len(digits) == 3 && isDigit(digits[0]) && digits[1] == '.' && isDigit(digits[2])
}

// isNumber: does a content-length have this form?
func isNumber(s string) bool {
	return s != "" && all(s, isDigit)
}

// sizeOf is the number that the digits say, but never above most + 1: there may be more digits than an int has.
func sizeOf(digits string, most int) int {
	size := 0
	for i := range len(digits) {
		size = min(size*10+int(digits[i]-'0'), most+1)
	}
	return size
}

// pathOf is a target without the scheme and the authority that it may begin with.
func pathOf(target string) (string, bool) {
	if !all(target, isVisible) {
		return "", false
	}
	if strings.HasPrefix(target, "/") {
		return target, true
	}
	rest, found := behindScheme(target)
	end := authorityEnd(rest)
	if !found || end == 0 {
		return "", false
	}
	return "/" + strings.TrimPrefix(rest[end:], "/"), true
}

func behindScheme(target string) (string, bool) {
	for _, scheme := range []string{"http://", "https://"} {
		if len(target) >= len(scheme) && small(target[:len(scheme)]) == scheme {
			return target[len(scheme):], true
		}
	}
	return "", false
}

func authorityEnd(s string) int {
	if end := strings.IndexAny(s, "/?"); end >= 0 {
		return end
	}
	return len(s)
}

// small turns the letters A to Z into small ones, and no other byte: the library's call knows more letters (a Kelvin sign would be a k).
func small(s string) string {
	b := []byte(s)
	for i, c := range b {
		if 'A' <= c && c <= 'Z' {
			b[i] = c - 'A' + 'a'
		}
	}
	return string(b)
}
