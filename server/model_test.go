package server_test

import (
	"net/url"
	"slices"
	"strconv"
	"strings"

	"usher/api"
	"usher/field"
	"usher/grant"
	"usher/jsonobj"
	"usher/page"
	"usher/pct"
	"usher/renew"
	"usher/token"
)

// The answers, as the chapter has them.

// paged is a page with more fields behind its own.
func paged(status int, p api.Page, more ...string) api.Reply {
	body, err := page.Page(p)
	if err != nil {
		panic("a test writes a page that may not be")
	}
	fields := pairs("Content-Type", "text/html; charset=utf-8", "Cache-Control", "no-store", "X-Frame-Options", "DENY", "Referrer-Policy", "no-referrer")
	return api.Reply{Status: status, Fields: and(fields, more...), Body: body}
}

func errorPage(status int, line string, more ...string) api.Reply {
	return paged(status, api.Page{Title: "Error", Lines: []string{line}}, more...)
}

func objectOf(status int, members []api.Member, more ...string) api.Reply {
	fields := pairs("Content-Type", "application/json", "Cache-Control", "no-store", "Pragma", "no-cache")
	if len(members) == 0 {
		return api.Reply{Status: status, Fields: and(fields[1:], more...)}
	}
	body, err := jsonobj.Object(members)
	if err != nil {
		panic("a test writes an object that may not be")
	}
	return api.Reply{Status: status, Fields: and(fields, more...), Body: body}
}

func errorObject(status int, word string, more ...string) api.Reply {
	return objectOf(status, []api.Member{text("error", word)}, more...)
}

// challenged is what a client gets that has not shown who it is.
var challenged = errorObject(401, "invalid_client", "WWW-Authenticate", `Basic realm="usher"`)

func text(name, value string) api.Member {
	return api.Member{Name: name, Kind: api.MemText, Text: value}
}

func number(name string, value int) api.Member {
	return api.Member{Name: name, Kind: api.MemNum, Num: value}
}

func flag(name string, value bool) api.Member {
	return api.Member{Name: name, Kind: api.MemFlag, Flag: value}
}

// tokens is a token and, unless it is empty, a refresh token.
func tokens(token, refresh, scope string) api.Reply {
	members := []api.Member{text("access_token", token), text("token_type", "Bearer"), number("expires_in", 3600)}
	if refresh != "" {
		members = append(members, text("refresh_token", refresh))
	}
	return objectOf(200, append(members, text("scope", scope)))
}

// active is what introspection says of a token of app that counts.
func active(user, scope string, at int) api.Reply {
	return objectOf(200, []api.Member{
		flag("active", true), text("scope", scope), text("client_id", "app"), text("username", user), text("token_type", "Bearer"), number("exp", at+3600), number("iat", at),
	})
}

var inactive = objectOf(200, []api.Member{flag("active", false)})

func redirect(to string, more ...string) api.Reply {
	return api.Reply{Status: 303, Fields: and(pairs("Location", to, "Cache-Control", "no-store"), more...)}
}

// entered is the redirect behind a login, with config's life of a session.
func entered(to, sid string) api.Reply { return enteredFor(1000, to, sid) }

func enteredFor(life int, to, sid string) api.Reply {
	return redirect(to, "Set-Cookie", "sid="+sid+"; Path=/; Max-Age="+strconv.Itoa(life)+"; Secure; HttpOnly; SameSite=Lax")
}

// left is the redirect behind a logout.
var left = redirect("/", "Set-Cookie", "sid=; Path=/; Max-Age=0; Secure; HttpOnly; SameSite=Lax")

func loginForm(next string) api.Form {
	return api.Form{Action: "/login", Button: "Log in", Inputs: []api.Input{
		{Kind: api.InHidden, Name: "next", Value: next}, {Kind: api.InText, Name: "user", Label: "Name"}, {Kind: api.InSecret, Name: "pass", Label: "Password"},
	}}
}

// strangers is home for somebody who is not logged in.
var strangers = paged(200, api.Page{Title: "Usher", Lines: []string{"You are not logged in."}, Forms: []api.Form{loginForm("/")}})

// homeOf is home for a user, with the clients and the scopes that they may use by turns.
func homeOf(sid, user string, given ...string) api.Reply {
	p := api.Page{Title: "Usher", Lines: []string{"You are logged in as " + user + "."}}
	for _, g := range pairs(given...) {
		p.Lines = append(p.Lines, g.Name+" may use: "+g.Value+".")
		p.Forms = append(p.Forms, api.Form{Action: "/withdraw", Button: "Withdraw", Inputs: []api.Input{
			{Kind: api.InHidden, Name: "client_id", Value: g.Name}, {Kind: api.InHidden, Name: "ticket", Value: ticketOf(sid, pairs("client_id", g.Name))},
		}})
	}
	p.Forms = append(p.Forms, api.Form{Action: "/logout", Button: "Log out"})
	return paged(200, p)
}

func loginPage(next string) api.Reply {
	return paged(200, api.Page{Title: "Log in", Forms: []api.Form{loginForm(next)}})
}

func denied(next string) api.Reply {
	return paged(403, api.Page{Title: "Log in", Lines: []string{"Wrong name or password."}, Forms: []api.Form{loginForm(next)}})
}

func locked(wait int) api.Reply {
	return paged(429, api.Page{Title: "Log in", Lines: []string{"Too many wrong passwords. Try again later."}}, "Retry-After", strconv.Itoa(wait))
}

// consentOf is the consent page of a session for a question.
func consentOf(sid, client, user string, question []api.Pair, scopes ...string) api.Reply {
	var forms []api.Form
	for _, c := range pairs("allow", "Allow", "deny", "Deny") {
		f := api.Form{Action: "/consent", Button: c.Value}
		for _, p := range and(question, "ticket", ticketOf(sid, question), "decision", c.Name) {
			f.Inputs = append(f.Inputs, api.Input{Kind: api.InHidden, Name: p.Name, Value: p.Value})
		}
		forms = append(forms, f)
	}
	for _, scope := range scopes {
		forms[0].Inputs = append(forms[0].Inputs, api.Input{Kind: api.InBox, Name: "grant:" + scope, Value: "yes", Label: scope})
	}
	return paged(200, api.Page{Title: "Allow access", Lines: []string{client + " asks for access in your name.", "You are logged in as " + user + "."}, Forms: forms})
}

// A model says what a request must be answered, by the words of the chapter, of what desks of its own answer, over a machine of its own.
type model struct {
	config api.Config
	machine
	front    *grant.Desk
	back     *token.Till
	renewals *renew.Desk
}

func (m *model) begin() {
	m.front = grant.New(m.config, m.store, m.source)
	m.back = token.New(m.config, m.store, m.source)
	m.renewals = renew.New(m.config, m.store, m.source, m.back)
}

// methodsOf is the chapter's table.
var methodsOf = map[string]string{
	"/": "GET, HEAD", "/login": "GET, HEAD, POST", "/logout": "POST", "/authorize": "GET", "/consent": "POST", "/withdraw": "POST", "/token": "POST", "/introspect": "POST", "/revoke": "POST",
}

func isBack(path string) bool {
	return path == "/token" || path == "/introspect" || path == "/revoke"
}

// wordAt is a status with a word, as that path tells it.
func wordAt(path string, status int, word string) api.Reply {
	if isBack(path) {
		return errorObject(status, word)
	}
	return errorPage(status, word)
}

// expect is the answer, with Close as the request has it.
func (m *model) expect(now int, q api.Request) (api.Reply, error) {
	path, _, _ := strings.Cut(q.Target, "?")
	want, err := m.expectHere(now, path, q)
	switch err {
	case nil:
	case api.ErrDead:
		return api.Reply{}, api.ErrDead
	case api.ErrFull:
		want = wordAt(path, 503, "temporarily_unavailable")
	default:
		want = wordAt(path, 500, "server_error")
	}
	want.Close = q.Close
	return want, nil
}

// small turns the letters A to Z alone: the library's own fold knows more of them.
func small(name string) string {
	return strings.Map(func(r rune) rune {
		if r >= 'A' && r <= 'Z' {
			return r + 'a' - 'A'
		}
		return r
	}, name)
}

// valuesOf is the values of the fields of that name (in small letters), in whatever case.
func valuesOf(fields []api.Pair, name string) []string {
	var list []string
	for _, f := range fields {
		if small(f.Name) == name {
			list = append(list, f.Value)
		}
	}
	return list
}

// expectHere is the answer, or what a desk refuses.
func (m *model) expectHere(now int, path string, q api.Request) (api.Reply, error) {
	_, query, _ := strings.Cut(q.Target, "?")
	methods, known := methodsOf[path]
	if !known {
		return errorPage(404, "Not Found"), nil
	}
	if !slices.Contains(strings.Split(methods, ", "), q.Method) {
		return errorPage(405, "Method Not Allowed", "Allow", methods), nil
	}
	if q.Method == "POST" {
		types := valuesOf(q.Fields, "content-type")
		if len(types) != 1 {
			return wordAt(path, 415, "invalid_request"), nil
		}
		if media, err := field.Media(types[0]); err != nil || media != formType {
			return wordAt(path, 415, "invalid_request"), nil
		}
		query = q.Body
	}
	params, err := pct.Pairs(query)
	if err != nil {
		return wordAt(path, 400, "invalid_request"), nil
	}
	if isBack(path) {
		return m.expectBack(now, path, q, params)
	}
	return m.expectFront(now, path, q, params)
}

// sidOf is the session's identifier of a request.
func sidOf(q api.Request) string {
	fields := valuesOf(q.Fields, "cookie")
	if len(fields) != 1 {
		return ""
	}
	cookies, err := field.Cookies(fields[0])
	if err != nil {
		return ""
	}
	cookies = slices.DeleteFunc(cookies, func(c api.Pair) bool { return c.Name != "sid" })
	if len(cookies) != 1 {
		return ""
	}
	return cookies[0].Value
}

// countOf is how many pairs of that name have a value, and the value of the last one.
func countOf(params []api.Pair, name string) (value string, count int) {
	for _, p := range params {
		if p.Name == name && p.Value != "" {
			value, count = p.Value, count+1
		}
	}
	return value, count
}

// placeOf is the place to go to.
func placeOf(params []api.Pair) string {
	next, count := countOf(params, "next")
	isOdd := func(r rune) bool { return r < 0x21 || r > 0x7E }
	switch {
	case count != 1, next[0] != '/', strings.ContainsFunc(next, isOdd):
		return "/"
	case len(next) > 1 && (next[1] == '/' || next[1] == '\\'):
		return "/"
	}
	return next
}

func (m *model) expectFront(now int, path string, q api.Request, params []api.Pair) (api.Reply, error) {
	sid := sidOf(q)
	var verdict api.Verdict
	var err error
	door := "/login"
	switch path {
	case "/":
		return m.expectHome(now, sid), nil
	case "/login":
		if q.Method != "POST" {
			return loginPage(placeOf(params)), nil
		}
		return m.expectLogin(now, params)
	case "/logout":
		return left, m.front.Logout(now, sid)
	case "/authorize":
		door = "/login?next=" + url.QueryEscape(q.Target)
		verdict, err = m.front.Ask(now, sid, params)
	case "/consent":
		verdict, err = m.front.Answer(now, sid, params)
	case "/withdraw":
		verdict, err = m.front.Withdraw(now, sid, params)
	}
	if err != nil {
		return api.Reply{}, err
	}
	return map[int]func() api.Reply{
		api.VerPage:     func() api.Reply { return errorPage(400, verdict.Error) },
		api.VerForged:   func() api.Reply { return errorPage(403, "forged") },
		api.VerLogin:    func() api.Reply { return redirect(door) },
		api.VerDone:     func() api.Reply { return redirect("/") },
		api.VerRedirect: func() api.Reply { return redirect(verdict.To) },
		api.VerConsent: func() api.Reply {
			return consentOf(sid, verdict.Client, verdict.User, verdict.Params, verdict.Scopes...)
		},
	}[verdict.Kind](), nil
}

func (m *model) expectHome(now int, sid string) api.Reply {
	user, lives := m.front.Who(now, sid)
	if !lives {
		return strangers
	}
	consents, _ := m.front.Given(now, sid)
	var given []string
	for i, c := range consents {
		if i < 64 {
			given = append(given, c.Client, strings.Join(c.Scopes, " "))
		}
	}
	return homeOf(sid, user, given...)
}

func (m *model) expectLogin(now int, params []api.Pair) (api.Reply, error) {
	user, users := countOf(params, "user")
	pass, passes := countOf(params, "pass")
	if users != 1 || passes != 1 {
		return errorPage(400, "invalid_request"), nil
	}
	sid, err := m.front.Login(now, user, pass)
	switch err {
	case api.ErrDenied:
		return denied(placeOf(params)), nil
	case api.ErrMany:
		return locked(m.front.Wait(now, user)), nil
	}
	return enteredFor(m.config.SessionLife, placeOf(params), sid), err
}

func (m *model) expectBack(now int, path string, q api.Request, params []api.Pair) (api.Reply, error) {
	fields := append(valuesOf(q.Fields, "authorization"), "")
	if len(fields) > 2 {
		return errorObject(400, "invalid_request"), nil
	}
	desk := m.back.Token
	switch grant, count := countOf(params, "grant_type"); {
	case path == "/introspect":
		desk = m.back.Introspect
	case path == "/revoke":
		desk = m.back.Revoke
	case count == 1 && grant == "refresh_token":
		desk = m.renewals.Renew
	}
	outcome, err := desk(now, fields[0], params)
	if outcome.Challenge {
		return objectOf(outcome.Status, outcome.Members, "WWW-Authenticate", `Basic realm="usher"`), err
	}
	return objectOf(outcome.Status, outcome.Members), err
}
