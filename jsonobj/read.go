package jsonobj

import (
	"strconv"
	"unicode/utf8"

	"usher/api"
)

// The numbers that are no characters but halves of one: a first half, then a second one.
const (
	firstHalf    = 0xd800
	secondHalf   = 0xdc00
	behindHalves = 0xe000
	halfBits     = 10
	beyondUnits  = 0x10000
)

// unitDigits is how many digits an escape by number has.
const unitDigits = 4

// reader walks through a text. Where the text is not of the form a method gives up by a panic of api.ErrText: so none of them has an error to answer.
type reader struct {
	text    string
	at      int
	members []api.Member
	count   int
}

func (r *reader) object() {
	r.skipBlanks()
	r.part('{')
	if !r.partIf('}') {
		r.member()
		for r.partIf(',') {
			r.member()
		}
		r.part('}')
	}
	if r.at < len(r.text) {
		panic(api.ErrText)
	}
}

// member reads one member. Those past the limit are counted alone: a text that has them is refused whatever they say.
func (r *reader) member() {
	name := r.quoted()
	r.skipBlanks()
	r.part(':')
	member := r.value()
	r.skipBlanks()
	member.Name = name
	r.count++
	if r.count <= api.MaxMembers {
		r.members = append(r.members, member)
	}
}

func (r *reader) value() api.Member {
	switch r.peek() {
	case '"':
		return api.Member{Kind: api.MemText, Text: r.quoted()}
	case 't':
		r.word("true")
		return api.Member{Kind: api.MemFlag, Flag: true}
	case 'f':
		r.word("false")
		return api.Member{Kind: api.MemFlag}
	}
	return api.Member{Kind: api.MemNum, Num: r.number()}
}

func (r *reader) number() int {
	begin := r.at
	r.takeIf('-')
	if !r.takeIf('0') {
		for isDigit(r.peek()) {
			r.at++
		}
	}
	// That there is no digit at all is found here too.
	number, err := strconv.Atoi(r.text[begin:r.at])
	if err != nil {
		panic(api.ErrText)
	}
	return number
}

func (r *reader) quoted() string {
	r.word(`"`)
	var meant []byte
	for !r.takeIf('"') {
		meant = utf8.AppendRune(meant, r.char())
	}
	return string(meant)
}

// char reads one part of a quoted text.
func (r *reader) char() rune {
	if r.takeIf('\\') {
		return r.escaped()
	}
	char, size := utf8.DecodeRuneInString(r.text[r.at:])
	// A true FFFD has three bytes; that of a byte that is no character has one, that of the text's end none.
	if char < firstUnescaped || char == utf8.RuneError && size <= 1 {
		panic(api.ErrText)
	}
	r.at += size
	return char
}

func (r *reader) escaped() rune {
	letter := r.next()
	if letter == 'u' {
		return r.numbered()
	}
	char, ok := shortMeaning(letter)
	if !ok {
		panic(api.ErrText)
	}
	return char
}

func (r *reader) numbered() rune {
	first := r.unit()
	if first < firstHalf || first >= behindHalves {
		return first
	}
	r.word(`\u`)
	second := r.unit()
	if first >= secondHalf || second < secondHalf || second >= behindHalves {
		panic(api.ErrText)
	}
	return beyondUnits + (first-firstHalf)<<halfBits + second - secondHalf
}

func (r *reader) unit() rune {
	var unit rune
	for range unitDigits {
		unit = unit<<4 | r.digit()
	}
	return unit
}

func (r *reader) digit() rune {
	switch b := r.next(); {
	case isDigit(b):
		return rune(b - '0')
	case 'a' <= b && b <= 'f':
		return rune(b - 'a' + 10)
	case 'A' <= b && b <= 'F':
		return rune(b - 'A' + 10)
	}
	panic(api.ErrText)
}
