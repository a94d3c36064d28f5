package field

import (
	"strconv"
	"strings"

	"usher/api"
)

// The attributes that SetCookie writes.
const (
	pathAttribute   = "; Path=/"
	maxAgeAttribute = "; Max-Age="
	lastAttributes  = "; Secure; HttpOnly; SameSite=Lax"
)

// cookieReader reads the value of a Cookie field.
type cookieReader struct {
	cursor
	table
}

// pieces are those that are not empty. It stops one past the limit: how many more there are makes no difference.
func (r *cookieReader) pieces() []string {
	var pieces []string
	for r.more() && len(pieces) <= api.MaxCookies {
		if piece := Trim(r.takeWhile(isPieceByte)); piece != "" {
			pieces = append(pieces, piece)
		}
		r.take(';')
	}
	return pieces
}

func isPieceByte(b byte) bool {
	return b != ';'
}

func (r *cookieReader) pair(piece string) (api.Pair, bool) {
	name, value, found := strings.Cut(piece, "=")
	value = unquoted(value)
	return api.Pair{Name: name, Value: value}, found && r.isCookie(name, value)
}

// unquoted takes the quotes away from a value that stands between two of them: one alone is not both.
func unquoted(value string) string {
	if len(value) >= 2 && value[0] == '"' && value[len(value)-1] == '"' {
		return value[1 : len(value)-1]
	}
	return value
}

func cookieText(name, value string) string {
	return name + "=" + value
}

// attributes are what SetCookie writes behind a cookie's value.
func attributes(maxAge int) string {
	written := pathAttribute
	switch {
	case maxAge >= 0:
		written += maxAgeAttribute + strconv.Itoa(maxAge)
		fallthrough
	case maxAge < 0:
		written += lastAttributes
	}
	return written
}

// seemingCookie is the cookie that a text of SetCookie's was written for. For any other text it may be anything.
func seemingCookie(v string) api.Cookie {
	name, behind, _ := strings.Cut(v, "=")
	value, behind, _ := strings.Cut(behind, ";")
	return api.Cookie{Name: name, Value: value, MaxAge: seemingAge(behind)}
}

func seemingAge(behind string) int {
	_, behind, found := strings.Cut(behind, maxAgeAttribute)
	if !found {
		return -1
	}
	digits, _, _ := strings.Cut(behind, ";")
	age, err := strconv.Atoi(digits)
	if err != nil {
		// A cookie without an age is written without the attribute that stands here: so the text will not be taken for it.
		return -1
	}
	return age
}
