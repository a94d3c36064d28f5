package field

import (
	"strings"

	"usher/api"
	"usher/pct"
	"usher/radix"
)

const basicScheme = "Basic"

// basicReader reads the value of an Authorization field.
type basicReader struct {
	cursor
	table
}

func (r *basicReader) scheme() string {
	return r.takeWhile(r.isTokenByte)
}

// credentials reads the name and the password behind the scheme.
func (r *basicReader) credentials() (string, string, error) {
	if r.takeWhile(isBlank) == "" {
		return "", "", api.ErrText
	}
	both, err := radix.UnStd(r.rest())
	if err != nil {
		return "", "", api.ErrText
	}
	user, pass, found := strings.Cut(both, ":")
	if !found {
		return "", "", api.ErrText
	}
	return unescapeBoth(user, pass)
}

func unescapeBoth(user, pass string) (string, string, error) {
	readUser, err := pct.Unescape(user, true)
	if err != nil {
		return "", "", api.ErrText
	}
	readPass, err := pct.Unescape(pass, true)
	if err != nil {
		return "", "", api.ErrText
	}
	return readUser, readPass, nil
}

// isBlank: the tab, though white, is none.
func isBlank(b byte) bool {
	return b == ' '
}
