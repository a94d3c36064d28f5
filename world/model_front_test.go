package world_test

import (
	"encoding/base64"
	"net/url"
	"slices"
	"strings"

	"usher/api"
)

// lives is the user of a session; empty, if it does not live.
func (m *model) lives(sid string) string {
	s, _ := sessionOf(m.kept.state(), sid)
	if s.Ended || m.now >= s.At+m.config.SessionLife {
		return ""
	}
	return s.User
}

// commit puts a transaction into the log.
func (m *model) commit(tx ...api.Record) error {
	f := frameOf(tx...)
	err := m.disk.put(f.data)
	if err != errModelFull {
		m.frames = append(m.frames, f)
	}
	if err == nil {
		m.kept.apply(tx)
	}
	return err
}

// fresh takes a draw.
func (m *model) fresh() (string, error) {
	if len(m.draws) == 0 {
		return "", errModelDraw
	}
	id := base64.RawURLEncoding.EncodeToString([]byte(m.draws[0]))
	m.draws = slices.Clone(m.draws[1:])
	if isKnown(m.kept.state(), id) {
		return "", errModelDraw
	}
	return id, nil
}

func (m *model) home(sid string) modelReply {
	user := m.lives(sid)
	var given []api.Consent
	for _, c := range m.kept.state().Consents {
		if c.User == user && len(given) < 64 {
			given = append(given, c)
		}
	}
	return homeOf(sid, user, given)
}

// enter: P16.2.
func (m *model) enter(name, pass string) (string, error) {
	user, isUser := find(m.config.Users, func(u api.User) bool { return u.Name == name })
	if !isUser {
		return "", errModelWrong
	}
	brake := m.brakes[name]
	if m.config.Fails > 0 && m.config.LockTime > 0 && brake.count >= m.config.Fails && m.now < brake.at+m.config.LockTime {
		return "", errModelWait
	}
	if !isPassword(pass, user.Secret, m.config.Rounds) {
		if m.now >= brake.at+m.config.LockTime {
			brake.count = 0
		}
		m.brakes[name] = modelBrake{brake.count + 1, m.now}
		return "", errModelWrong
	}
	m.brakes[name] = modelBrake{0, brake.at}
	id, err := m.fresh()
	if err != nil {
		return "", err
	}
	return id, m.commit(api.Record{Kind: api.RecSession, ID: id, User: name, At: m.now})
}

// login: P19.9.
func (m *model) login(params []api.Pair) (modelReply, error) {
	user, users := countOf(params, "user")
	pass, passes := countOf(params, "pass")
	if users != 1 || passes != 1 {
		return errorPageOf(400, "invalid_request"), nil
	}
	sid, err := m.enter(user, pass)
	switch err {
	case errModelWrong:
		return pageOf(403, "Log in", []string{"Wrong name or password."}, []string{loginFormOf(placeOf(params))}), nil
	case errModelWait:
		wait := m.brakes[user].at + m.config.LockTime - m.now
		return pageOf(429, "Log in", []string{"Too many wrong passwords. Try again later."}, nil, "Retry-After: "+decimal(wait)), nil
	}
	return redirectOf(placeOf(params), cookieOf(sid, m.config.SessionLife)), err
}

func (m *model) logout(sid string) (modelReply, error) {
	r := redirectOf("/", cookieOf("", 0))
	if m.lives(sid) == "" {
		return r, nil
	}
	return r, m.commit(api.Record{Kind: api.RecEnded, ID: sid})
}

// scopesOf: P9.3.
func scopesOf(text string) ([]string, bool) {
	list := strings.Split(text, " ")
	for _, s := range list {
		for i := range len(s) {
			if s[i] < 0x21 || s[i] > 0x7e || s[i] == '"' || s[i] == '\\' {
				return nil, false
			}
		}
		if s == "" || len(s) > 32 {
			return nil, false
		}
	}
	slices.Sort(list)
	list = slices.Compact(list)
	return list, len(list) <= 16
}

func isWithin(a, b []string) bool {
	return !slices.ContainsFunc(a, func(s string) bool { return !slices.Contains(b, s) })
}

// sentBack is an address of the client with more parameters.
func sentBack(to string, params ...string) modelReply {
	form := formText(pairs(params...))
	switch before, query, hasQuery := strings.Cut(to, "?"); {
	case !hasQuery:
		return redirectOf(to + "?" + form)
	case query == "":
		return redirectOf(before + "?" + form)
	}
	return redirectOf(to + "&" + form)
}

// A modelQuestion is what a client asks, once it is well-formed.
type modelQuestion struct {
	client, redirect, challenge, state string
	scopes                             []string
	params                             []api.Pair
}

func (q modelQuestion) back(name, value string) modelReply {
	if q.state == "" {
		return sentBack(q.redirect, name, value)
	}
	return sentBack(q.redirect, name, value, "state", q.state)
}

// asked: P16.5; a status of 0 says that the question is well-formed.
func (m *model) asked(params []api.Pair) (modelQuestion, modelReply) {
	var q modelQuestion
	once := func(name string) string {
		value, count := countOf(params, name)
		if count != 1 {
			return ""
		}
		return value
	}
	if q.client = once("client_id"); q.client == "" {
		return q, errorPageOf(400, "invalid_request")
	}
	client, isClient := find(m.config.Clients, func(c api.Client) bool { return c.ID == q.client })
	if !isClient {
		return q, errorPageOf(400, "invalid_client")
	}
	if q.redirect = once("redirect_uri"); !slices.Contains(client.Redirects, q.redirect) {
		return q, errorPageOf(400, "invalid_request")
	}
	state, states := countOf(params, "state")
	isOdd := func(r rune) bool { return r < 0x20 || r > 0x7e }
	if states > 1 || len(state) > 512 || strings.ContainsFunc(state, isOdd) {
		return q, q.back("error", "invalid_request")
	}
	q.state = state
	switch once("response_type") {
	case "":
		return q, q.back("error", "invalid_request")
	case "code":
	default:
		return q, q.back("error", "unsupported_response_type")
	}
	var ok bool
	if q.scopes, ok = scopesOf(once("scope")); !ok || !isWithin(q.scopes, client.Scopes) {
		return q, q.back("error", "invalid_scope")
	}
	if q.challenge = once("code_challenge"); !isProof(q.challenge) || once("code_challenge_method") != "S256" {
		return q, q.back("error", "invalid_request")
	}
	q.params = pairs("client_id", q.client, "redirect_uri", q.redirect, "response_type", "code", "scope", strings.Join(q.scopes, " "))
	if q.state != "" {
		q.params = and(q.params, "state", q.state)
	}
	q.params = and(q.params, "code_challenge", q.challenge, "code_challenge_method", "S256")
	return q, modelReply{}
}

// authorize: P16.7.
func (m *model) authorize(sid string, params []api.Pair, door string) (modelReply, error) {
	q, refusal := m.asked(params)
	if refusal.status != 0 {
		return refusal, nil
	}
	user := m.lives(sid)
	if user == "" {
		return redirectOf(door), nil
	}
	given, hasGiven := consentOf(m.kept.state(), user, q.client)
	if !hasGiven || !isWithin(q.scopes, given.Scopes) {
		return questionPageOf(sid, q.client, user, q.params, q.scopes), nil
	}
	return m.giveCode(user, q, q.scopes, false)
}

// consent: P16.8.
func (m *model) consent(sid string, params []api.Pair) (modelReply, error) {
	q, refusal := m.asked(params)
	if refusal.status != 0 {
		return refusal, nil
	}
	user := m.lives(sid)
	if user == "" {
		return redirectOf("/login"), nil
	}
	if ticket, count := countOf(params, "ticket"); count != 1 || ticket != ticketOf(sid, q.params) {
		return errorPageOf(403, "forged"), nil
	}
	decision, count := countOf(params, "decision")
	if count != 1 || decision != "allow" && decision != "deny" {
		return errorPageOf(400, "invalid_request"), nil
	}
	var approved []string
	for _, s := range q.scopes {
		if value, count := countOf(params, "grant:"+s); count == 1 && value == "yes" {
			approved = append(approved, s)
		}
	}
	if decision == "deny" || len(approved) == 0 {
		return q.back("error", "access_denied"), nil
	}
	return m.giveCode(user, q, approved, true)
}

// giveCode: P16.9.
func (m *model) giveCode(user string, q modelQuestion, scopes []string, isAsked bool) (modelReply, error) {
	id, err := m.fresh()
	if err != nil {
		return modelReply{}, err
	}
	tx := []api.Record{{Kind: api.RecCode, ID: id, Client: q.client, User: user, Redirect: q.redirect, Challenge: q.challenge, Scopes: scopes, At: m.now}}
	if isAsked {
		tx = append([]api.Record{{Kind: api.RecConsent, User: user, Client: q.client, Scopes: scopes, At: m.now}}, tx...)
	}
	return q.back("code", id), m.commit(tx...)
}

// withdraw: P16.12.
func (m *model) withdraw(sid string, params []api.Pair) (modelReply, error) {
	user := m.lives(sid)
	if user == "" {
		return redirectOf("/login"), nil
	}
	client, count := countOf(params, "client_id")
	if count != 1 {
		return errorPageOf(400, "invalid_request"), nil
	}
	if ticket, count := countOf(params, "ticket"); count != 1 || ticket != ticketOf(sid, pairs("client_id", client)) {
		return errorPageOf(403, "forged"), nil
	}
	if _, hasGiven := consentOf(m.kept.state(), user, client); !hasGiven {
		return redirectOf("/"), nil
	}
	return redirectOf("/"), m.commit(api.Record{Kind: api.RecWithdrawn, User: user, Client: client})
}

// isProof: P10.1.
func isProof(s string) bool {
	isOther := func(r rune) bool {
		return !(r >= 'A' && r <= 'Z' || r >= 'a' && r <= 'z' || r >= '0' && r <= '9' || strings.ContainsRune("-._~", r))
	}
	return len(s) >= 43 && len(s) <= 128 && !strings.ContainsFunc(s, isOther)
}

func formText(params []api.Pair) string {
	var pieces []string
	for _, p := range params {
		pieces = append(pieces, url.QueryEscape(p.Name)+"="+url.QueryEscape(p.Value))
	}
	return strings.Join(pieces, "&")
}
