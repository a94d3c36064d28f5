package reply

import (
	"strconv"
	"strings"

	"usher/api"
)

// readHead reads a head without its last two line ends: the answer but for its body, and the body's size.
func readHead(head string) (api.Reply, int, bool) {
	first, rest, _ := strings.Cut(head, crlf)
	number := statusOf(first)
	fields, rest := readFields(rest)
	size, closes, ok := readEnd(rest)
	return api.Reply{Status: number, Fields: fields, Close: closes}, size, ok && number != 0
}

// readFields takes lines as long as they are fields and not too many, and answers what is left. No field can take one of the last two lines: their names are not for fields.
func readFields(rest string) ([]api.Pair, string) {
	var fields []api.Pair
lines:
	for len(fields) < api.MaxFields {
		line, behind, _ := strings.Cut(rest, crlf)
		for at := range len(line) {
			if line[at] != ':' {
				continue
			}
			value, blank := strings.CutPrefix(line[at+1:], " ")
			f := api.Pair{Name: line[:at], Value: value}
			if !blank || !fits(f) {
				break lines
			}
			fields, rest = append(fields, f), behind
			continue lines
		}
		break
	}
	return fields, rest
}

// readEnd reads the last two lines: the body's size, and whether the connection is closed.
func readEnd(rest string) (int, bool, bool) {
	length, connection, _ := strings.Cut(rest, crlf)
	digits, named := strings.CutPrefix(length, lengthName)
	size, sound := sizeOf(digits)
	closes := connection == closeLine
	return size, closes, named && sound && (closes || connection == keepLine)
}

// sizeOf takes the one spelling that is written: Atoi alone would take a sign, and zeros ahead.
func sizeOf(digits string) (int, bool) {
	size, err := strconv.Atoi(digits)
	sound := err == nil && size >= 0 && size <= api.MaxReply && strconv.Itoa(size) == digits
	return size, sound
}
