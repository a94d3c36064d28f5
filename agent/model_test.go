package agent_test

import (
	"net/url"
	"regexp"
	"slices"
	"strconv"
	"strings"

	"usher/api"
)

// The model says what a call must answer, by the words of the chapter. It leans on none of the layers below: the grammars are expressions, over texts that wide has made.

const (
	fieldToken = "[!#$%&'*+.^_`|~0-9A-Za-z-]+"
	cookieByte = `[!#-+\x2d-:<-\[\]-~]`
	quotedForm = `"(?:[\t\x20-\x21\x23-\x5b\x5d-\x7e\x{80}-\x{ff}]|\\[\t\x20-\x7e\x{80}-\x{ff}])*"`
	char       = `(?:[^&<>"']|&amp;|&lt;|&gt;|&quot;|&#39;)`
	hiddenLine = `<input type="hidden" name="(` + char + `+)" value="(` + char + `*)">\n`
	textLine   = `<p><label>(` + char + `*) <input type="text" name="(` + char + `+)" value="(` + char + `*)"></label></p>\n`
	secretLine = `<p><label>(` + char + `*) <input type="password" name="(` + char + `+)"></label></p>\n`
	boxLine    = `<p><label><input type="checkbox" name="(` + char + `+)" value="(` + char + `*)" checked> (` + char + `*)</label></p>\n`
	inputLine  = `(?:` + hiddenLine + `|` + textLine + `|` + secretLine + `|` + boxLine + `)`
	formLines  = `<form method="post" action="(` + char + `*)">\n(` + inputLine + `*)<p><button type="submit">(` + char + `*)</button></p>\n</form>\n`
	pageLines  = `<!DOCTYPE html>\n<html lang="en">\n<head>\n<meta charset="utf-8">\n<title>(` + char + `*)</title>\n</head>\n<body>\n<h1>(` + char + `*)</h1>\n((?:<p>` + char + `*</p>\n)*)((?:` + formLines + `)*)</body>\n</html>\n`
)

var (
	placeForm     = regexp.MustCompile(`\A/(?:[!-.0-\[\]-~][!-~]*)?\z`)
	setCookieForm = regexp.MustCompile(`\A(` + fieldToken + `)=(` + cookieByte + `*); Path=/(?:; Max-Age=(0|[1-9][0-9]*))?; Secure; HttpOnly; SameSite=Lax\z`)
	mediaForm     = regexp.MustCompile(`\A(` + fieldToken + `/` + fieldToken + `)(?:[\t ]*;[\t ]*(?:` + fieldToken + `=(?:` + fieldToken + `|` + quotedForm + `))?)*\z`)
	pageForm      = regexp.MustCompile(`(?s)\A` + pageLines + `\z`)
	lineForm      = regexp.MustCompile(`(?s)<p>(` + char + `*)</p>\n`)
	formForm      = regexp.MustCompile(`(?s)` + formLines)
	inputForm     = regexp.MustCompile(`(?s)` + inputLine)
)

// wide makes a rune of each byte, so that an expression speaks of bytes; narrow turns it back.
func wide(s string) string {
	runes := make([]rune, len(s))
	for i := range runes {
		runes[i] = rune(s[i])
	}
	return string(runes)
}

func narrow(s string) string {
	var bytes []byte
	for _, r := range s {
		bytes = append(bytes, byte(r))
	}
	return string(bytes)
}

// lower makes the letters A to Z small, no others.
func lower(s string) string {
	return strings.Map(func(r rune) rune {
		if 'A' <= r && r <= 'Z' {
			return r + 'a' - 'A'
		}
		return r
	}, wide(s))
}

// valuesOf are the values of the fields of that name.
func valuesOf(r api.Reply, name string) []string {
	var list []string
	for _, f := range r.Fields {
		if lower(f.Name) == name {
			list = append(list, f.Value)
		}
	}
	return list
}

func isPlace(s string) bool { return placeForm.MatchString(wide(s)) }

// cookieOf is what a Set-Cookie field says; false: it is refused.
func cookieOf(value string) (api.Cookie, bool) {
	parts := setCookieForm.FindStringSubmatch(wide(value))
	if parts == nil {
		return api.Cookie{}, false
	}
	c := api.Cookie{Name: parts[1], Value: parts[2], MaxAge: -1}
	if parts[3] != "" {
		age, err := strconv.Atoi(parts[3])
		if err != nil {
			return api.Cookie{}, false
		}
		c.MaxAge = age
	}
	return c, true
}

// plain takes the escapes of a page's text away.
func plain(s string) string {
	return strings.NewReplacer("&amp;", "&", "&lt;", "<", "&gt;", ">", "&quot;", `"`, "&#39;", "'").Replace(narrow(s))
}

// pageIn is the page of a text; false: there is none.
func pageIn(html string) (api.Page, bool) {
	parts := pageForm.FindStringSubmatch(wide(html))
	if parts == nil || parts[1] != parts[2] {
		return api.Page{}, false
	}
	p := api.Page{Title: plain(parts[1])}
	for _, line := range lineForm.FindAllStringSubmatch(parts[3], -1) {
		p.Lines = append(p.Lines, plain(line[1]))
	}
	for _, form := range formForm.FindAllStringSubmatch(parts[4], -1) {
		f := api.Form{Action: plain(form[1]), Button: plain(form[len(form)-1])}
		for _, in := range inputForm.FindAllStringSubmatch(form[2], -1) {
			f.Inputs = append(f.Inputs, inputIn(in))
		}
		p.Forms = append(p.Forms, f)
	}
	return p, true
}

// inputIn is the input of a line: of the kinds' groups only those of its own are not empty, as no name is.
func inputIn(parts []string) api.Input {
	for i := range parts {
		parts[i] = plain(parts[i])
	}
	switch {
	case parts[1] != "":
		return api.Input{Kind: api.InHidden, Name: parts[1], Value: parts[2]}
	case parts[4] != "":
		return api.Input{Kind: api.InText, Label: parts[3], Name: parts[4], Value: parts[5]}
	case parts[7] != "":
		return api.Input{Kind: api.InSecret, Label: parts[6], Name: parts[7]}
	}
	return api.Input{Kind: api.InBox, Name: parts[8], Value: parts[9], Label: parts[10]}
}

// bodyOf is what a browser sends for a form of a page.
func bodyOf(f api.Form, typed []api.Pair) string {
	var list []string
	for _, in := range f.Inputs {
		value, clicks := in.Value, 0
		for _, p := range typed {
			if p.Name == in.Name && (in.Kind == api.InText || in.Kind == api.InSecret) {
				value = p.Value
			}
			if p.Name == in.Name && p.Value == in.Value {
				clicks++
			}
		}
		if in.Kind != api.InBox || clicks%2 == 0 {
			list = append(list, url.QueryEscape(in.Name)+"="+url.QueryEscape(value))
		}
	}
	return strings.Join(list, "&")
}

// put is a cookie with the time at which it was put into the jar.
type put struct {
	api.Cookie
	at int
}

func (p put) lasts(t int) bool { return p.MaxAge < 0 || t-p.at < p.MaxAge }

// model is a browser of which nothing is thrown away: whether a cookie lasts is asked when it matters.
type model struct {
	now   int
	puts  []put
	page  api.Page
	there bool
	where string
	waits bool
	hops  int
}

func (m *model) time(now int) int { return max(m.now, now) }

// cookies are those at a time, rising by name.
func (m *model) cookies(t int) []api.Pair {
	var list []api.Pair
	for _, p := range m.puts {
		if p.lasts(t) {
			list = append(list, api.Pair{Name: p.Name, Value: p.Value})
		}
	}
	slices.SortFunc(list, func(a, b api.Pair) int { return strings.Compare(a.Name, b.Name) })
	return list
}

// request is one of the agent's at its time, whatever its method.
func (m *model) request(method, target, body string) api.Request {
	q := api.Request{Method: method, Target: target, Minor: 1, Fields: pairs("host", "usher"), Body: body}
	var cookies []string
	for _, c := range m.cookies(m.now) {
		cookies = append(cookies, c.Name+"="+c.Value)
	}
	if len(cookies) > 0 {
		q.Fields = append(q.Fields, api.Pair{Name: "cookie", Value: strings.Join(cookies, "; ")})
	}
	if method == "POST" {
		q.Fields = append(q.Fields, pairs("content-type", "application/x-www-form-urlencoded", "content-length", strconv.Itoa(len(body)))...)
	}
	return q
}

// visit is P23.2.
func (m *model) visit(now int, target string) (api.Request, error) {
	if !isPlace(target) {
		return api.Request{}, api.ErrText
	}
	m.now, m.waits, m.hops = m.time(now), true, 0
	return m.request("GET", target, ""), nil
}

// submit is P23.3.
func (m *model) submit(now, form int, typed []api.Pair) (api.Request, error) {
	if !m.there {
		return api.Request{}, api.ErrLost
	}
	if form < 0 || form > len(m.page.Forms)-1 {
		return api.Request{}, api.ErrArg
	}
	f := m.page.Forms[form]
	if !isPlace(f.Action) {
		return api.Request{}, api.ErrText
	}
	m.now, m.waits, m.hops = m.time(now), true, 0
	return m.request("POST", f.Action, bodyOf(f, typed)), nil
}

// take is P23.4.
func (m *model) take(now int, r api.Reply) (api.Request, int, error) {
	if !m.waits {
		return api.Request{}, 0, api.ErrLost
	}
	m.now, m.waits = m.time(now), false
	for _, value := range valuesOf(r, "set-cookie") {
		if c, ok := cookieOf(value); ok {
			m.put(c)
		}
	}
	m.page, m.there, m.where = api.Page{}, false, ""
	to := valuesOf(r, "location")
	if len(to) != 1 || r.Status != 302 && r.Status != 303 {
		m.read(r)
		return api.Request{}, 0, nil
	}
	if !isPlace(to[0]) {
		m.where = to[0]
		return api.Request{}, 2, nil
	}
	if m.hops == 10 {
		return api.Request{}, 0, api.ErrMany
	}
	m.hops++
	m.waits = true
	return m.request("GET", to[0], ""), 1, nil
}

func (m *model) put(c api.Cookie) {
	at := slices.IndexFunc(m.puts, func(p put) bool { return p.Name == c.Name })
	lasting := m.cookies(m.now)
	if c.MaxAge == 0 {
		if at >= 0 {
			m.puts = slices.Delete(m.puts, at, at+1)
		}
		return
	}
	if len(lasting) >= 16 && !slices.ContainsFunc(lasting, func(p api.Pair) bool { return p.Name == c.Name }) {
		return
	}
	if at < 0 {
		m.puts = append(m.puts, put{c, m.now})
		return
	}
	m.puts[at] = put{c, m.now}
}

func (m *model) read(r api.Reply) {
	types := valuesOf(r, "content-type")
	if len(types) != 1 {
		return
	}
	if parts := mediaForm.FindStringSubmatch(wide(types[0])); parts != nil && lower(parts[1]) == "text/html" {
		m.page, m.there = pageIn(r.Body)
	}
}

// A ledger holds P23.8 against an agent: it knows which cookies came and were in the jar behind the answer that they came with, and nothing of how many may be.
type ledger struct {
	now  int
	puts map[string]put
}

func (l *ledger) came(r api.Reply, jar []api.Pair) {
	for _, value := range valuesOf(r, "set-cookie") {
		c, ok := cookieOf(value)
		switch {
		case ok && c.MaxAge == 0:
			delete(l.puts, c.Name)
		case ok && slices.ContainsFunc(jar, func(p api.Pair) bool { return p.Name == c.Name }):
			l.puts[c.Name] = put{c, l.now}
		}
	}
}

// field is the value of the field cookie of a request now; empty, if there is to be none.
func (l *ledger) field() string {
	var list []string
	for name, p := range l.puts {
		if p.lasts(l.now) {
			list = append(list, name+"="+p.Value)
		}
	}
	slices.SortFunc(list, func(a, b string) int {
		return strings.Compare(a[:strings.Index(a, "=")], b[:strings.Index(b, "=")])
	})
	return strings.Join(list, "; ")
}
