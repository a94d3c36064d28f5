package world_test

import (
	"encoding/base64"
	"net/url"
	"regexp"
	"slices"
	"strings"

	"usher/api"
)

// modelRoutes: chapter 19.
var modelRoutes = map[string]string{
	"/": "GET, HEAD", "/login": "GET, HEAD, POST", "/logout": "POST", "/authorize": "GET", "/consent": "POST", "/withdraw": "POST", "/token": "POST", "/introspect": "POST", "/revoke": "POST",
}

func isBack(path string) bool {
	return path == "/token" || path == "/introspect" || path == "/revoke"
}

// wordOf is a status with a word, as that path tells it.
func wordOf(path string, status int, word string) modelReply {
	if isBack(path) {
		return errorObjectOf(status, word)
	}
	return errorPageOf(status, word)
}

// media: P6.11, as one expression over bytes (those above 0x7F were turned into letters before).
var media = regexp.MustCompile("^([!#$%&'*+\\-.^_|~`0-9A-Za-z]+/[!#$%&'*+\\-.^_|~`0-9A-Za-z]+)([ \t]*;[ \t]*([!#$%&'*+\\-.^_|~`0-9A-Za-z]+=([!#$%&'*+\\-.^_|~`0-9A-Za-z]+|\"([\t !#-\\[\\]-~\u00e9]|\\\\[\t -~\u00e9])*\"))?)*$")

func isFormType(value string) bool {
	var plain strings.Builder
	for i := range len(value) {
		if value[i] >= 0x80 {
			plain.WriteString("é")
		} else {
			plain.WriteByte(value[i])
		}
	}
	found := media.FindStringSubmatch(plain.String())
	return found != nil && smallLetters(found[1]) == "application/x-www-form-urlencoded"
}

// readable is a name or a value of a form, percent signs and all.
func readable(s string) (string, bool) {
	for i := range len(s) {
		if s[i] < 0x21 || s[i] > 0x7e {
			return "", false
		}
	}
	text, err := url.QueryUnescape(s)
	return text, err == nil
}

// pairsOf: P3.4.
func pairsOf(form string) ([]api.Pair, bool) {
	var list []api.Pair
	for _, piece := range strings.Split(form, "&") {
		if piece == "" {
			continue
		}
		name, value, _ := strings.Cut(piece, "=")
		n, okName := readable(name)
		v, okValue := readable(value)
		if !okName || !okValue {
			return nil, false
		}
		list = append(list, api.Pair{Name: n, Value: v})
	}
	return list, len(list) <= 32
}

// countOf: P3.7.
func countOf(params []api.Pair, name string) (string, int) {
	first, count := "", 0
	for _, p := range params {
		if p.Name == name && p.Value != "" {
			if count++; count == 1 {
				first = p.Value
			}
		}
	}
	return first, count
}

// cookiesOf: P6.5.
func cookiesOf(value string) ([]api.Pair, bool) {
	var list []api.Pair
	for _, piece := range strings.Split(value, ";") {
		piece = strings.Trim(piece, " \t")
		if piece == "" {
			continue
		}
		name, v, found := strings.Cut(piece, "=")
		if len(v) >= 2 && v[0] == '"' && v[len(v)-1] == '"' {
			v = v[1 : len(v)-1]
		}
		for i := range len(v) {
			found = found && v[i] >= 0x21 && v[i] <= 0x7e && !strings.Contains(`",;\`, v[i:i+1])
		}
		if !found || !tokenText.MatchString(name) {
			return nil, false
		}
		list = append(list, api.Pair{Name: name, Value: v})
	}
	return list, len(list) <= 16
}

// sidOf is the session's identifier of a request.
func sidOf(q api.Request) string {
	fields := valuesOf(q.Fields, "cookie")
	if len(fields) != 1 {
		return ""
	}
	cookies, ok := cookiesOf(fields[0])
	cookies = slices.DeleteFunc(cookies, func(c api.Pair) bool { return c.Name != "sid" })
	if !ok || len(cookies) != 1 {
		return ""
	}
	return cookies[0].Value
}

// basicOf: P6.9.
func basicOf(value string) (name, pass string, ok bool) {
	scheme, rest, _ := strings.Cut(value, " ")
	if smallLetters(scheme) != "basic" {
		return "", "", false
	}
	text, err := base64.StdEncoding.Strict().DecodeString(strings.TrimLeft(rest, " "))
	if err != nil || strings.ContainsAny(rest, "\r\n") {
		return "", "", false
	}
	name, pass, found := strings.Cut(string(text), ":")
	name, okName := readable(name)
	pass, okPass := readable(pass)
	return name, pass, found && okName && okPass
}

// serve: P19.2 and P19.6.
func (m *model) serve(q api.Request) (modelReply, error) {
	path, query, _ := strings.Cut(q.Target, "?")
	r, err := m.answer(path, query, q)
	switch err {
	case nil:
	case errModelDead:
		return modelReply{}, err
	case errModelFull:
		r = wordOf(path, 503, "temporarily_unavailable")
	default:
		r = wordOf(path, 500, "server_error")
	}
	r.close = q.Close
	return r, nil
}

func (m *model) answer(path, query string, q api.Request) (modelReply, error) {
	methods, isRoute := modelRoutes[path]
	if !isRoute {
		return errorPageOf(404, "Not Found"), nil
	}
	if !slices.Contains(strings.Split(methods, ", "), q.Method) {
		return errorPageOf(405, "Method Not Allowed", "Allow: "+methods), nil
	}
	if q.Method == "POST" {
		types := valuesOf(q.Fields, "content-type")
		if len(types) != 1 || !isFormType(types[0]) {
			return wordOf(path, 415, "invalid_request"), nil
		}
		query = q.Body
	}
	params, ok := pairsOf(query)
	if !ok {
		return wordOf(path, 400, "invalid_request"), nil
	}
	switch path {
	case "/":
		return m.home(sidOf(q)), nil
	case "/login":
		if q.Method != "POST" {
			return pageOf(200, "Log in", nil, []string{loginFormOf(placeOf(params))}), nil
		}
		return m.login(params)
	case "/logout":
		return m.logout(sidOf(q))
	case "/authorize":
		return m.authorize(sidOf(q), params, "/login?next="+url.QueryEscape(q.Target))
	case "/consent":
		return m.consent(sidOf(q), params)
	case "/withdraw":
		return m.withdraw(sidOf(q), params)
	}
	fields := valuesOf(q.Fields, "authorization")
	if len(fields) > 1 {
		return wordOf(path, 400, "invalid_request"), nil
	}
	return m.back(path, strings.Join(fields, ""), params)
}

// placeOf is the place to go to.
func placeOf(params []api.Pair) string {
	next, count := countOf(params, "next")
	isOdd := func(r rune) bool { return r < 0x21 || r > 0x7e }
	if count != 1 || next[0] != '/' || strings.ContainsFunc(next, isOdd) || len(next) > 1 && (next[1] == '/' || next[1] == '\\') {
		return "/"
	}
	return next
}
