package client_test

import (
	"encoding/json"
	"regexp"
	"strconv"
	"unicode/utf8"
)

// The model of objects: which texts are one, by an expression; what their texts mean, by the library.

const (
	blanks  = `[ \t\n\r]*`
	quoted  = `"(?:[^"\\\x00-\x1f]|\\["\\/bfnrt]|\\u(?:[0-9a-cefA-CEF][0-9a-fA-F]{3}|[dD][0-7][0-9a-fA-F]{2})|\\u[dD][89abAB][0-9a-fA-F]{2}\\u[dD][c-fC-F][0-9a-fA-F]{2})*"`
	values  = quoted + `|-?(?:0|[1-9][0-9]*)|true|false`
	members = `(` + quoted + `)` + blanks + `:` + blanks + `(` + values + `)`
)

var (
	objectForm = regexp.MustCompile(`\A` + blanks + `\{` + blanks + `(?:` + members + blanks + `(?:,` + blanks + members + blanks + `)*)?\}` + blanks + `\z`)
	memberForm = regexp.MustCompile(members)
)

// objectIn is the members of an object by their names: texts, ints and bools; nil: that is none.
func objectIn(s string) map[string]any {
	if !utf8.ValidString(s) || !objectForm.MatchString(s) {
		return nil
	}
	object := map[string]any{}
	list := memberForm.FindAllStringSubmatch(s, -1)
	for _, parts := range list {
		value, ok := valueOf(parts[2])
		if !ok {
			return nil
		}
		object[textOf(parts[1])] = value
	}
	if len(list) > 32 || len(object) != len(list) {
		return nil
	}
	return object
}

func textOf(s string) string {
	var text string
	if err := json.Unmarshal([]byte(s), &text); err != nil {
		panic(err)
	}
	return text
}

func valueOf(s string) (any, bool) {
	switch {
	case s[0] == '"':
		return textOf(s), true
	case s == "true" || s == "false":
		return s == "true", true
	}
	number, err := strconv.Atoi(s)
	return number, err == nil
}
