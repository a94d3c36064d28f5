package server

import (
	"strings"

	"usher/api"
	"usher/field"
	"usher/pct"
)

// formType is the one kind of body that is read.
const formType = "application/x-www-form-urlencoded"

// sidName is the name of the cookie that holds a session's identifier.
const sidName = "sid"

// A visit is a request that has come to its route, with the parameters of its query or of its body.
type visit struct {
	now    int
	target string
	fields []api.Pair
	params []api.Pair
}

// isForm: do the fields say, once and for all, that the body is a form?
func isForm(fields []api.Pair) bool {
	value, count := field.Lookup(fields, "Content-Type")
	if count != 1 {
		return false
	}
	media, err := field.Media(value)
	return err == nil && media == formType
}

// sid is the session's identifier; empty where the request does not name just one.
func (q visit) sid() string {
	value, count := field.Lookup(q.fields, "Cookie")
	if count != 1 {
		return ""
	}
	cookies, err := field.Cookies(value)
	if err != nil {
		return ""
	}
	return only(cookies, sidName)
}

// only is the value of the one pair of that name; empty where there is none, or more than one. A pair with an empty value is one, too: pct.Get would pass it by.
func only(list []api.Pair, name string) string {
	value, count := "", 0
	for _, p := range list {
		if p.Name == name {
			value, count = p.Value, count+1
		}
	}
	if count != 1 {
		return ""
	}
	return value
}

// auth is by what the client shows who it is; false, if it does so in more than one field.
func (q visit) auth() (string, bool) {
	value, count := field.Lookup(q.fields, "Authorization")
	return value, count <= 1
}

// place is where the browser goes behind a login.
func (q visit) place() string {
	next, count := pct.Get(q.params, nextName)
	if count != 1 || !isPlace(next) {
		return homePath
	}
	return next
}

// isPlace: does a text name a place of this server, and no other one? A browser takes what begins with two slashes, or with a slash and a backslash, for another server's name.
func isPlace(s string) bool {
	if !strings.HasPrefix(s, "/") || strings.HasPrefix(s, "//") || strings.HasPrefix(s, `/\`) {
		return false
	}
	for i := range len(s) {
		if s[i] < 0x21 || s[i] > 0x7E {
			return false
		}
	}
	return true
}
