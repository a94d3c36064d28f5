package world_test

import (
	"net/url"
	"slices"
	"strings"

	"usher/api"
)

// checkReasons: W19; nothing is refused without a reason.
func (l *ledger) checkReasons() {
	l.t.Helper()
	for _, e := range l.tape {
		if !e.isRequest || e.answer == nil {
			continue // that none is left without an answer was looked at when it was entered
		}
		if !l.hasReason(e) {
			l.t.Fatalf("W19: at %d %q is answered %q without a reason", e.now, e.step.Data, e.text)
		}
	}
}

func (l *ledger) hasReason(e entry) bool {
	methods, isRoute := modelRoutes[e.path]
	isMethod := slices.Contains(strings.Split(methods, ", "), e.q.Method)
	c, isShown := l.client(e)
	switch e.status() {
	case 200:
		return isRoute && isMethod
	case 303:
		return l.isSentForReason(e)
	case 401:
		return isBack(e.path) && (!isShown || e.path == "/introspect" && c.Public)
	case 403:
		return e.is("POST", "/login") && !l.isRightLogin(e) || (e.path == "/consent" || e.path == "/withdraw") && l.isForged(e)
	case 404:
		return !isRoute
	case 405:
		return isRoute && !isMethod
	case 415:
		types := valuesOf(e.q.Fields, "content-type")
		return e.q.Method == "POST" && (len(types) != 1 || !isFormType(types[0]))
	case 429:
		return l.config.Fails > 0 && l.config.LockTime > 0 && e.is("POST", "/login")
	case 500:
		return l.hasBadDraw(e)
	case 503:
		return len(e.before.Disk)+5433 > l.config.DiskBytes
	case 400:
		return !e.isReadable || e.auths > 1 || l.isFaulty(e, c)
	}
	return false
}

// isForged: the ticket is not that of this session and this question.
func (l *ledger) isForged(e entry) bool {
	if e.path == "/withdraw" {
		return e.once("ticket") != ticketOf(e.sid, pairs("client_id", e.once("client_id")))
	}
	q, _ := l.question(e)
	return e.once("ticket") != ticketOf(e.sid, q.params)
}

// hasBadDraw: no draw waits, or one that would be used is known or not unlike the other.
func (l *ledger) hasBadDraw(e entry) bool {
	needed := 1
	if code, _ := codeOf(e.before.State, e.once("code")); e.path == "/token" && (e.once("grant_type") == "refresh_token" || slices.Contains(code.Scopes, "offline_access")) {
		needed = 2
	}
	if len(e.draws) < needed || needed == 2 && e.draws[0] == e.draws[1] {
		return true
	}
	return slices.ContainsFunc(e.draws[:needed], func(d string) bool { return isKnown(e.before.State, idOf(d)) })
}

// isFaulty: a parameter is missing, there twice or not such as it must be, or names what is not there.
func (l *ledger) isFaulty(e entry, c api.Client) bool {
	s := e.before.State
	lacks := func(names ...string) bool {
		return slices.ContainsFunc(names, func(name string) bool { return e.once(name) == "" })
	}
	switch e.path {
	case "/login":
		return lacks("user", "pass")
	case "/authorize", "/consent":
		client, isClient := find(l.config.Clients, func(c api.Client) bool { return c.ID == e.once("client_id") })
		decision := e.once("decision")
		return !isClient || !slices.Contains(client.Redirects, e.once("redirect_uri")) || e.path == "/consent" && decision != "allow" && decision != "deny"
	case "/withdraw":
		return lacks("client_id")
	}
	_, ids := countOf(e.params, "client_id")
	_, secrets := countOf(e.params, "client_secret")
	name, _, isBasic := basicOf(e.auth)
	if ids > 1 || secrets > 1 || isBasic && (secrets > 0 || ids == 1 && e.once("client_id") != name) {
		return true // it says twice, or in two ways, who asks
	}
	if e.path != "/token" {
		token, isToken := tokenOf(s, e.once("token"))
		refresh, isRefresh := refreshOf(s, e.once("token"))
		return lacks("token") || e.path == "/revoke" && (isToken && token.Client != c.ID || isRefresh && refresh.Client != c.ID)
	}
	switch e.once("grant_type") {
	case "authorization_code":
		code, isCode := codeOf(s, e.once("code"))
		verifier := e.once("code_verifier")
		return lacks("code", "redirect_uri", "code_verifier") || !isCode || code.Client != c.ID || code.Used || e.now >= code.At+l.config.CodeLife || code.Redirect != e.once("redirect_uri") || !isProof(verifier) || challengeOf(verifier) != code.Challenge
	case "refresh_token":
		old, isRefresh := refreshOf(s, e.once("refresh_token"))
		code, _ := codeOf(s, old.Code)
		scope, scopes := countOf(e.params, "scope")
		wanted, isWell := scopesOf(scope)
		isBeyond := scopes == 1 && (!isWell || !isWithin(wanted, old.Scopes))
		return lacks("refresh_token") || !isRefresh || old.Client != c.ID || old.Used || code.Burned || e.now >= old.At+l.config.RefreshLife || scopes > 1 || isBeyond
	}
	return true // no grant, or another one
}

// isSentForReason: nobody whose session lives is sent to the login, and an error is sent back only for what it names.
func (l *ledger) isSentForReason(e entry) bool {
	to := e.location()
	s, lives := l.session(e)
	if strings.HasPrefix(to, "/") {
		switch e.path {
		case "/login":
			return l.isRightLogin(e) && to == placeOf(e.params)
		case "/logout", "/withdraw":
			return to == "/" || !lives && to == "/login"
		case "/authorize":
			return !lives && to == "/login?next="+url.QueryEscape(e.q.Target)
		}
		return !lives && e.path == "/consent" && to == "/login"
	}
	at, err := url.Parse(to)
	if err != nil {
		return false
	}
	sent := at.Query()
	if state := e.once("state"); sent.Get("state") != state && sent.Get("error") != "invalid_request" {
		return false
	}
	scopes, isWell := scopesOf(e.once("scope"))
	client, _ := find(l.config.Clients, func(c api.Client) bool { return c.ID == e.once("client_id") })
	switch sent.Get("error") {
	case "":
		_, isCode := codeOf(e.behind.State, sent.Get("code"))
		return isCode && lives && s.User != ""
	case "access_denied":
		_, _, approved := l.approved(e)
		return e.path == "/consent" && (e.once("decision") == "deny" || len(approved) == 0)
	case "unsupported_response_type":
		return e.once("response_type") != "code"
	case "invalid_scope":
		return !isWell || !isWithin(scopes, client.Scopes)
	case "invalid_request":
		state, states := countOf(e.params, "state")
		isOdd := func(r rune) bool { return r < 0x20 || r > 0x7e }
		return states > 1 || len(state) > 512 || strings.ContainsFunc(state, isOdd) || e.once("response_type") == "" || !isProof(e.once("code_challenge")) || e.once("code_challenge_method") != "S256"
	}
	return false
}
