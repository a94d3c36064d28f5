package jsonobj

import (
	"strconv"
	"unicode/utf8"

	"usher/api"
)

const smallDigits = "0123456789abcdef"

func isPlain(s string) bool {
	return utf8.ValidString(s)
}

// refusal is what keeps members from being written. Each question is asked of all members ahead of the next one: so the refusals come in their order.
func refusal(l []api.Member) error {
	if len(l) > api.MaxMembers {
		return api.ErrMany
	}
	for _, member := range l {
		if member.Kind != api.MemText && member.Kind != api.MemNum && member.Kind != api.MemFlag {
			return api.ErrArg
		}
	}
	for _, member := range l {
		if !isPlain(member.Name) || member.Kind == api.MemText && !isPlain(member.Text) {
			return api.ErrText
		}
	}
	if someNameTwice(l) {
		return api.ErrTwice
	}
	return nil
}

func someNameTwice(l []api.Member) bool {
	for i, member := range l {
		for _, earlier := range l[:i] {
			if earlier.Name == member.Name {
				return true
			}
		}
	}
	return false
}

func appendObject(written []byte, l []api.Member) []byte {
	written = append(written, '{')
	for i, member := range l {
		if i > 0 {
			written = append(written, ',')
		}
		written = appendQuoted(written, member.Name)
		written = append(written, ':')
		written = appendValue(written, member)
	}
	return append(written, '}')
}

func appendValue(written []byte, member api.Member) []byte {
	switch member.Kind {
	case api.MemText:
		return appendQuoted(written, member.Text)
	case api.MemNum:
		return strconv.AppendInt(written, int64(member.Num), 10)
	}
	return strconv.AppendBool(written, member.Flag)
}

// appendQuoted writes a plain text: in one that is not, a byte that is no character would come out as another character.
func appendQuoted(written []byte, s string) []byte {
	written = append(written, '"')
	for _, char := range s {
		written = appendChar(written, char)
	}
	return append(written, '"')
}

func appendChar(written []byte, char rune) []byte {
	if char >= firstUnescaped && char != '"' && char != '\\' {
		return utf8.AppendRune(written, char)
	}
	if letter, ok := shortLetter(char); ok {
		return append(written, '\\', letter)
	}
	return append(written, '\\', 'u', '0', '0', smallDigits[char>>4], smallDigits[char&15])
}
