package bearer

import (
	"strings"

	"usher/api"
	"usher/field"
	"usher/pct"
	"usher/terms"
)

const (
	scheme    = "Bearer"
	tokenName = "access_token"
	formMedia = "application/x-www-form-urlencoded"
)

// parameters are those of the query and those of the form. What is not there has the empty text, which has none.
func parameters(q api.Request) ([]api.Pair, error) {
	_, query, _ := terms.Split(q.Target)
	inQuery, err := pct.Pairs(query)
	if err != nil {
		return nil, err
	}
	inForm, err := pct.Pairs(formOf(q))
	if err != nil {
		return nil, err
	}
	return append(inQuery, inForm...), nil
}

// formOf is a request's form; the body of any other request is not looked at.
func formOf(q api.Request) string {
	value, fields := field.Lookup(q.Fields, "Content-Type")
	media, err := field.Media(value)
	if q.Method != "POST" || fields != 1 || err != nil || media != formMedia {
		return ""
	}
	return q.Body
}

// behindScheme is what an Authorization field shows; false: it has another scheme, or none. Where no blank follows the scheme shows the empty text, which is no token.
func behindScheme(value string) (string, bool) {
	// No letter of the scheme has another form beyond ASCII, so the library's folding is the document's.
	if len(value) < len(scheme) || !strings.EqualFold(value[:len(scheme)], scheme) {
		return "", false
	}
	rest := value[len(scheme):]
	if strings.HasPrefix(rest, " ") {
		return strings.TrimLeft(rest, " "), true
	}
	// The scheme's name ends here, or it goes on and is that of another one.
	return "", rest == "" || !isTokenByte(rest[0])
}

// isToken: is s one byte or more that may stand in a token, and nothing but '=' behind them?
func isToken(s string) bool {
	end := len(s)
walk:
	for i := range len(s) {
		switch b := s[i]; {
		case isAlphanumeric(b), among("-._~+/", b):
		default:
			end = i
			break walk
		}
	}
	return end > 0 && strings.TrimLeft(s[end:], "=") == ""
}

// isTokenByte speaks of the tokens of header fields: a scheme is one of these, and what it shows is not.
func isTokenByte(b byte) bool {
	return isAlphanumeric(b) || among("!#$%&'*+-.^_|~`", b)
}

func isAlphanumeric(b byte) bool {
	return '0' <= b && b <= '9' || 'A' <= b && b <= 'Z' || 'a' <= b && b <= 'z'
}

func among(bytes string, b byte) bool {
	return strings.IndexByte(bytes, b) >= 0
}
