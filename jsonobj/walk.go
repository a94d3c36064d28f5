package jsonobj

import (
	"strings"

	"usher/api"
)

// peek is the byte that comes next. There must be one: inside of an object the text is never at its end.
func (r *reader) peek() byte {
	if r.at == len(r.text) {
		panic(api.ErrText)
	}
	return r.text[r.at]
}

func (r *reader) next() byte {
	b := r.peek()
	r.at++
	return b
}

func (r *reader) takeIf(b byte) bool {
	if r.peek() != b {
		return false
	}
	r.at++
	return true
}

func (r *reader) word(letters string) {
	if !strings.HasPrefix(r.text[r.at:], letters) {
		panic(api.ErrText)
	}
	r.at += len(letters)
}

// part takes a sign with the blanks behind it.
func (r *reader) part(sign byte) {
	if !r.partIf(sign) {
		panic(api.ErrText)
	}
}

func (r *reader) partIf(sign byte) bool {
	if !r.takeIf(sign) {
		return false
	}
	r.skipBlanks()
	return true
}

// skipBlanks may come to the end of the text: blanks may stand behind the object.
func (r *reader) skipBlanks() {
	for r.at < len(r.text) && isBlank(r.text[r.at]) {
		r.at++
	}
}

func isBlank(b byte) bool {
	return b == ' ' || b == '\t' || b == '\n' || b == '\r'
}

func isDigit(b byte) bool {
	return '0' <= b && b <= '9'
}
