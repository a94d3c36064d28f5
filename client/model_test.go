package client_test

import (
	"encoding/base64"
	"net/url"
	"regexp"
	"slices"
	"strconv"
	"strings"

	"usher/api"
)

// The model says what a call must answer, by the words of the chapter. It keeps nothing but the row of what has happened, and looks back in it. It leans on none of the layers below: the grammars are expressions.

const (
	pathByte  = `(?:[A-Za-z0-9._~!$&'()*+,;=:@-]|%[0-9A-Fa-f]{2})`
	path      = `(?:/(?:` + pathByte + `|/)*)?`
	query     = `(?:\?(?:` + pathByte + `|[/?])*)?`
	label     = `[A-Za-z0-9](?:[A-Za-z0-9-]{0,61}[A-Za-z0-9])?`
	host      = `(?:` + label + `(?:\.` + label + `)*|\[[0-9A-Fa-f:.]+\])`
	port      = `(?::(?:[1-9][0-9]{0,3}|[1-5][0-9]{4}|6[0-4][0-9]{3}|65[0-4][0-9]{2}|655[0-2][0-9]|6553[0-5]))?`
	private   = `[a-z][a-z0-9+-]*\.[a-z0-9+.-]*:/(?:` + pathByte + `(?:` + pathByte + `|/)*)?`
	scopeText = `[!#-\[\]-~]{1,32}`
)

var (
	nameForm     = regexp.MustCompile(`\A[!-~]{1,64}\z`)
	redirectForm = regexp.MustCompile(`\A(?:https://` + host + port + path + query + `|http://(?:localhost|127\.0\.0\.1|\[::1\])` + port + path + query + `|` + private + query + `)\z`)
	scopesForm   = regexp.MustCompile(`\A` + scopeText + `(?: ` + scopeText + `)*\z`)
	bearerForm   = regexp.MustCompile(`\A[Bb][Ee][Aa][Rr][Ee][Rr]\z`)
)

// scopesIn are the scopes of a text, rising, each once; none: it is no such text.
func scopesIn(s string) []string {
	if !scopesForm.MatchString(s) {
		return nil
	}
	list := strings.Split(s, " ")
	slices.Sort(list)
	if list = slices.Compact(list); len(list) > 16 {
		return nil
	}
	return list
}

// formOf is names and values by turns as a form.
func formOf(texts ...string) string {
	var list []string
	for i := 0; i < len(texts); i += 2 {
		list = append(list, url.QueryEscape(texts[i])+"="+url.QueryEscape(texts[i+1]))
	}
	return strings.Join(list, "&")
}

// joint is what stands between a redirect address and what is put into it.
func joint(redirect string) string {
	_, own, asks := strings.Cut(redirect, "?")
	switch {
	case !asks:
		return "?"
	case own == "":
		return ""
	}
	return "&"
}

// answerOf is a redirect address with parameters: names and values by turns.
func answerOf(redirect string, texts ...string) string {
	return redirect + joint(redirect) + formOf(texts...)
}

func nearest(now int) int { return min(max(now, 0), last) }

// held is a token with its end.
type held struct {
	text   string
	end    int
	scopes []string
}

// An event is something that has happened. What is nil in it has stayed as it was.
type event struct {
	kind                  string
	state, verifier, code string
	token                 *held
	refresh, failure      *string
}

type model struct {
	id, secret, redirect string
	wishes               []string
	past                 []event
}

// newModel is P24.1; nil: that may not be.
func newModel(id, secret, redirect string, scopes []string) *model {
	wishes := scopesIn(strings.Join(scopes, " "))
	if !nameForm.MatchString(id) || len(redirect) > 512 || !redirectForm.MatchString(redirect) || wishes == nil {
		return nil
	}
	return &model{id: id, secret: secret, redirect: redirect, wishes: wishes}
}

func (m *model) add(e event) { m.past = append(m.past, e) }

// latest is the last of what has happened of which that is true; one without a kind, if there is none.
func (m *model) latest(is func(e event) bool) event {
	for _, e := range slices.Backward(m.past) {
		if is(e) {
			return e
		}
	}
	return event{}
}

// latestOf is the last of some kinds.
func (m *model) latestOf(kinds ...string) event {
	return m.latest(func(e event) bool { return slices.Contains(kinds, e.kind) })
}

// out is the request that is out: its kind; empty: none.
func (m *model) out() string {
	return strings.TrimPrefix(m.latestOf("redeem", "renew", "drop", "take").kind, "take")
}

// token is the text of the token and its end; an empty text: there is none.
func (m *model) token() (string, int) {
	e := m.latest(func(e event) bool { return e.token != nil })
	if e.token == nil {
		return "", 0
	}
	return e.token.text, e.token.end
}

func (m *model) scopes() []string {
	if e := m.latest(func(e event) bool { return e.token != nil }); e.token != nil {
		return e.token.scopes
	}
	return nil
}

func (m *model) refresh() string {
	if e := m.latest(func(e event) bool { return e.refresh != nil }); e.refresh != nil {
		return *e.refresh
	}
	return ""
}

func (m *model) failed() string {
	if e := m.latest(func(e event) bool { return e.failure != nil }); e.failure != nil {
		return *e.failure
	}
	return ""
}

// begin is P24.2.
func (m *model) begin(state, verifier string) (string, error) {
	if len(state) != 32 || len(verifier) != 32 {
		return "", api.ErrArg
	}
	e := event{kind: "begin", state: letters(state), verifier: letters(verifier), failure: new(string)}
	m.add(e)
	return "/authorize?" + formOf("client_id", m.id, "redirect_uri", m.redirect, "response_type", "code", "scope", strings.Join(m.wishes, " "), "state", e.state, "code_challenge", challengeOf(e.verifier), "code_challenge_method", "S256"), nil
}

// back is P24.3: an answer is one that is the same when it is written anew.
func (m *model) back(uri string) error {
	begun := m.latestOf("begin", "back")
	if begun.kind != "begin" {
		return api.ErrLost
	}
	for _, name := range []string{"code", "error"} {
		head, tail := m.redirect+joint(m.redirect)+name+"=", "&state="+begun.state
		if len(uri) < len(head)+len(tail) || !strings.HasPrefix(uri, head) || !strings.HasSuffix(uri, tail) {
			continue
		}
		text, err := url.QueryUnescape(uri[len(head) : len(uri)-len(tail)])
		if text == "" || err != nil || uri != answerOf(m.redirect, name, text, "state", begun.state) {
			continue
		}
		e := event{kind: "back", failure: new(string)}
		if name == "code" {
			e.code, e.verifier = text, begun.verifier
		} else {
			*e.failure = text
		}
		m.add(e)
		return nil
	}
	return api.ErrDenied
}

// sent is a form that is sent.
func (m *model) sent(place string, texts ...string) api.Request {
	fields := []string{"host", "usher", "content-type", "application/x-www-form-urlencoded"}
	if m.secret == "" {
		texts = append(texts, "client_id", m.id)
	} else {
		shown := url.QueryEscape(m.id) + ":" + url.QueryEscape(m.secret)
		fields = append(fields, "authorization", "Basic "+base64.StdEncoding.EncodeToString([]byte(shown)))
	}
	body := formOf(texts...)
	return api.Request{Method: "POST", Target: place, Minor: 1, Body: body, Fields: pairs(append(fields, "content-length", strconv.Itoa(len(body)))...)}
}

// redeem is P24.4.
func (m *model) redeem() (api.Request, error) {
	e := m.latestOf("begin", "back", "redeem")
	if e.kind != "back" || e.code == "" {
		return api.Request{}, api.ErrLost
	}
	m.add(event{kind: "redeem"})
	return m.sent("/token", "grant_type", "authorization_code", "code", e.code, "redirect_uri", m.redirect, "code_verifier", e.verifier), nil
}

// renew and drop are P24.5.
func (m *model) renew() (api.Request, error) {
	refresh := m.refresh()
	if refresh == "" {
		return api.Request{}, api.ErrLost
	}
	m.add(event{kind: "renew"})
	return m.sent("/token", "grant_type", "refresh_token", "refresh_token", refresh), nil
}

func (m *model) drop() (api.Request, error) {
	text, _ := m.token()
	if text == "" {
		return api.Request{}, api.ErrLost
	}
	if refresh := m.refresh(); refresh != "" {
		text = refresh
	}
	m.add(event{kind: "drop"})
	return m.sent("/revoke", "token", text), nil
}

// take is P24.6.
func (m *model) take(now int, r api.Reply) error {
	of := m.out()
	if of == "" {
		return api.ErrLost
	}
	e, err := event{}, error(nil)
	switch {
	case r.Status != 200:
		e, err = refused(of, r)
	case of == "drop":
		e = event{token: &held{}, refresh: new(string), failure: new(string)}
	default:
		e, err = m.given(of, nearest(now), r)
	}
	e.kind = "take"
	m.add(e)
	return err
}

func refused(of string, r api.Reply) (event, error) {
	reason, ok := objectIn(r.Body)["error"].(string)
	if !ok || reason == "" {
		return event{}, api.ErrText
	}
	e := event{failure: &reason}
	if of == "renew" && r.Status == 400 {
		e.refresh = new(string)
	}
	return e, api.ErrDenied
}

func (m *model) given(of string, now int, r api.Reply) (event, error) {
	o := objectIn(r.Body)
	text, _ := o["access_token"].(string)
	kind, _ := o["token_type"].(string)
	life, hasLife := o["expires_in"].(int)
	scope, _ := o["scope"].(string)
	refresh, isText := o["refresh_token"].(string)
	_, hasRefresh := o["refresh_token"]
	scopes := scopesIn(scope)
	if text == "" || !bearerForm.MatchString(kind) || !hasLife || life < 0 || life > 1<<30 || scopes == nil || hasRefresh && (!isText || refresh == "") {
		return event{}, api.ErrText
	}
	for _, s := range scopes {
		if !slices.Contains(m.wishes, s) {
			return event{}, api.ErrText
		}
	}
	e := event{token: &held{text, now + life, scopes}, failure: new(string)}
	if hasRefresh || of == "redeem" {
		e.refresh = &refresh
	}
	return e, nil
}
