package world_test

import (
	"slices"
	"strings"
	"testing"

	"usher/api"
)

// The ledger holds DOC.md's promises of the whole against the steps of a run, one by one: what was asked, what went out, and what was kept ahead of it and behind it. What went out and what is kept is the program's own answer for every beginning of the script. The model lends it no state, only which draws wait, and its reading of a request: who asks, and whether a question is well-formed.

// An entry is a step of a run; of a request also what it asks.
type entry struct {
	step           api.Step
	isRequest      bool
	q              api.Request
	path           string
	params         []api.Pair
	isReadable     bool // the form or the query
	sid, auth      string
	auths          int
	text           string
	answer         *seen // nil: nothing went out
	now            int
	draws          []string // that wait ahead of it
	before, behind api.Trace
}

type ledger struct {
	t      *testing.T
	config api.Config
	tape   []entry
}

// ledgerOf plays every beginning of a script, of which each step Bytes is one whole request.
func ledgerOf(t *testing.T, c api.Config, script []api.Step) *ledger {
	t.Helper()
	l := &ledger{t: t, config: c}
	text := textOf(c)
	before := mustRun(t, text)
	waiting := newModel(c) // tells which draws wait
	for i, s := range script {
		behind := mustRun(t, text, script[:i+1]...)
		e := entry{step: s, now: before.Now, draws: slices.Clone(waiting.draws), before: before, behind: behind}
		if len(behind.Outs) < len(before.Outs) || !slices.Equal(behind.Outs[:len(before.Outs)], before.Outs) {
			t.Fatalf("W1: the step %d changes what went out before", i)
		}
		l.enter(&e)
		l.tape = append(l.tape, e)
		waiting.do(s)
		before = behind
	}
	return l
}

// enter reads the request and the answer of a step.
func (l *ledger) enter(e *entry) {
	l.t.Helper()
	outs := e.behind.Outs[len(e.before.Outs):]
	if e.step.Kind != api.StepBytes {
		if len(outs) > 0 {
			l.t.Fatalf("P20.4: %+v is answered", e.step)
		}
		return
	}
	q, used, number := modelParse(e.step.Data, l.config.HeadMax, l.config.BodyMax)
	if number != 1 || used != len(e.step.Data) {
		l.t.Fatalf("a test's step is not one request: %q", e.step.Data)
	}
	e.isRequest, e.q = true, q
	path, form, _ := strings.Cut(q.Target, "?")
	if q.Method == "POST" {
		form = q.Body
	}
	e.path, e.sid = path, sidOf(q)
	e.params, e.isReadable = pairsOf(form)
	fields := valuesOf(q.Fields, "authorization")
	e.auth, e.auths = strings.Join(fields, ""), len(fields)
	if len(outs) > 1 || len(outs) == 0 && e.behind.Boots == e.before.Boots {
		l.t.Fatalf("W19: %q has %d answers", e.step.Data, len(outs))
	}
	if len(outs) == 1 {
		e.text = outs[0].Text
		r, _ := readFirst(l.t, e.text, q.Method)
		e.answer = &r
	}
}

// What an entry says.

func (e entry) once(name string) string {
	value, count := countOf(e.params, name)
	if count != 1 {
		return ""
	}
	return value
}

func (e entry) is(method, path string) bool {
	return e.isRequest && e.q.Method == method && e.path == path && e.isReadable
}

func (e entry) status() int {
	if e.answer == nil {
		return 0
	}
	return e.answer.status
}

func (e entry) location() string {
	if e.answer == nil {
		return ""
	}
	return e.answer.location()
}

// session is that of the cookie, if it lives.
func (l *ledger) session(e entry) (api.Session, bool) {
	s, ok := sessionOf(e.before.State, e.sid)
	return s, ok && !s.Ended && e.now < s.At+l.config.SessionLife
}

// client is the one that the entry shows itself to be.
func (l *ledger) client(e entry) (api.Client, bool) {
	if e.q.Method != "POST" || !isBack(e.path) || e.auths > 1 {
		return api.Client{}, false
	}
	c, refusal := (&model{config: l.config}).caller(e.auth, e.params)
	return c, refusal == ""
}

// isRightLogin: a login with a user's password.
func (l *ledger) isRightLogin(e entry) bool {
	u, ok := find(l.config.Users, func(u api.User) bool { return u.Name == e.once("user") })
	return e.is("POST", "/login") && ok && e.once("pass") != "" && isPassword(e.once("pass"), u.Secret, l.config.Rounds)
}

// question is what the entry asks, if it is well-formed.
func (l *ledger) question(e entry) (modelQuestion, bool) {
	q, refusal := (&model{config: l.config}).asked(e.params)
	return q, refusal.status == 0
}

// approved is what a consent form allows, if all of it is right.
func (l *ledger) approved(e entry) (user, client string, scopes []string) {
	s, lives := l.session(e)
	q, isWell := l.question(e)
	if !e.is("POST", "/consent") || !lives || !isWell || e.once("ticket") != ticketOf(e.sid, q.params) || e.once("decision") != "allow" {
		return "", "", nil
	}
	for _, scope := range q.scopes {
		if e.once("grant:"+scope) == "yes" {
			scopes = append(scopes, scope)
		}
	}
	return s.User, q.client, scopes
}

// takenBack is whom a withdrawal that was answered takes back from.
func (l *ledger) takenBack(e entry) (user, client string) {
	s, lives := l.session(e)
	client = e.once("client_id")
	if !e.is("POST", "/withdraw") || !lives || e.once("ticket") != ticketOf(e.sid, pairs("client_id", client)) || e.status() != 303 || e.location() != "/" {
		return "", ""
	}
	return s.User, client
}

// grantOf: the entry asks for a token by that grant, and names all that it must.
func (e entry) grantOf(grant string, names ...string) bool {
	isWell := e.is("POST", "/token") && e.once("grant_type") == grant
	for _, name := range names {
		isWell = isWell && e.once(name) != ""
	}
	return isWell
}

// checkAll holds all that the ledger knows against the run.
func (l *ledger) checkAll() {
	l.t.Helper()
	l.checkRefused()
	l.checkConsent()
	l.checkOnce()
	l.checkEndings()
	l.checkBrake()
	l.checkPlaces()
	l.checkOwners()
	l.checkReasons()
	l.checkSecrets()
	l.checkWriters()
}

// checkRefused: W3; what has no room or no draw changes nothing, and leaves the connection as the request wants it.
func (l *ledger) checkRefused() {
	l.t.Helper()
	for _, e := range l.tape {
		if s := e.status(); s == 500 || s == 503 {
			if e.behind.Disk != e.before.Disk || !isSameState(e.behind.State, e.before.State) {
				l.t.Fatalf("W3: %q is answered %d and has changed what is kept", e.step.Data, s)
			}
			if !strings.Contains(e.text, "\r\nConnection: keep-alive\r\n") {
				l.t.Fatalf("W3: %q is answered %d and has shut the connection", e.step.Data, s)
			}
		}
	}
}

// checkConsent: W6; behind every token that counts stands a user who has allowed it.
func (l *ledger) checkConsent() {
	l.t.Helper()
	for k, e := range l.tape {
		if !e.is("POST", "/introspect") || e.answer == nil || !e.answer.isActive() {
			continue
		}
		a := e.answer
		scopes := strings.Split(a.member("scope"), " ")
		if !l.isAllowed(k, a.member("username"), a.member("client_id"), scopes) {
			l.t.Fatalf("W6: %q counts, and nobody has allowed it", a.body)
		}
		iat, _ := a.members["iat"].(float64)
		exp, _ := a.members["exp"].(float64)
		if int(exp) != int(iat)+l.config.TokenLife || e.now >= int(exp) || e.now < int(iat) {
			l.t.Fatalf("W6: at %d %q counts", e.now, a.body)
		}
		if c, ok := l.client(e); !ok || c.Public {
			l.t.Fatalf("W6: whoever asks is told %q", a.body)
		}
	}
}

// isAllowed: ahead of the entry k a login and a consent form were sent for these scopes, and not taken back since.
func (l *ledger) isAllowed(k int, user, client string, scopes []string) bool {
	for b := k - 1; b >= 0; b-- {
		e := l.tape[b]
		if u, c := l.takenBack(e); u == user && c == client {
			return false
		}
		if u, c, approved := l.approved(e); u == user && c == client && isWithin(scopes, approved) && l.hasLoggedIn(b, e.sid, user) {
			return true
		}
	}
	return false
}

// hasLoggedIn: ahead of the entry b the user has begun that session, with their password.
func (l *ledger) hasLoggedIn(b int, sid, user string) bool {
	return slices.ContainsFunc(l.tape[:b], func(e entry) bool {
		_, was := sessionOf(e.before.State, sid)
		_, is := sessionOf(e.behind.State, sid)
		return !was && is && l.isRightLogin(e) && e.once("user") == user
	})
}

// checkOnce: W7, W8 and the first half of W12.
func (l *ledger) checkOnce() {
	l.t.Helper()
	turned := map[string]int{}
	for _, e := range l.tape {
		id := e.once("code")
		code, isCode := codeOf(e.before.State, id)
		behind, _ := codeOf(e.behind.State, id)
		isGiven := e.answer != nil && e.answer.member("access_token") != ""
		switch {
		case e.path == "/token" && isGiven && e.once("grant_type") == "refresh_token":
			id = e.once("refresh_token")
			old, ok := refreshOf(e.before.State, id)
			if turned[id]++; turned[id] > 1 || !ok || old.Used {
				l.t.Fatalf("W12: the refresh token %s is turned into a token %d times", id, turned[id])
			}
			if scopes := strings.Split(e.answer.member("scope"), " "); !isWithin(scopes, old.Scopes) {
				l.t.Fatalf("W12: %q for a refresh token of %q", scopes, old.Scopes)
			}
		case isGiven:
			turned[id]++
			verifier := e.once("code_verifier")
			c, isShown := l.client(e)
			if turned[id] > 1 || e.path != "/token" || !isCode || code.Used || !isShown || c.ID != code.Client || e.once("redirect_uri") != code.Redirect || e.now >= code.At+l.config.CodeLife || !isProof(verifier) || challengeOf(verifier) != code.Challenge {
				l.t.Fatalf("W7: %q gets a token for %+v", e.step.Data, code)
			}
		case e.isRequest && e.path == "/token" && e.answer != nil && isCode:
			if behind.Used != code.Used || len(e.behind.State.Tokens) != len(e.before.State.Tokens) {
				l.t.Fatalf("W8: %q makes of %+v %+v", e.step.Data, code, behind)
			}
		}
		l.checkFamilies(e.behind.State)
	}
}

// checkFamilies: W7 and W12, for what is kept: crashes and all, a code gives one token at most, and each refresh token one.
func (l *ledger) checkFamilies(s api.State) {
	l.t.Helper()
	for _, c := range s.Codes {
		tokens, refreshes, used := 0, 0, 0
		for _, v := range s.Tokens {
			if v.Code == c.ID {
				tokens++
				if !isWithin(v.Scopes, c.Scopes) {
					l.t.Fatalf("W12: the token %+v of %+v", v, c)
				}
			}
		}
		for _, v := range s.Refreshes {
			if v.Code == c.ID {
				refreshes++
				if v.Used {
					used++
				}
			}
		}
		if tokens > 1+used || refreshes > 1+used || tokens > 0 && !c.Used {
			l.t.Fatalf("W7, W12: %d tokens and %d refresh tokens of the code %+v", tokens, refreshes, c)
		}
	}
}

// checkEndings: W9, W11, W12 and W13; what was ended and answered counts no more.
func (l *ledger) checkEndings() {
	l.t.Helper()
	tokens, families := map[string]string{}, map[string]string{} // and by which promise
	for _, e := range l.tape {
		s := e.before.State
		if token, ok := tokenOf(s, e.once("token")); ok && e.path == "/introspect" && e.answer != nil && e.answer.isActive() {
			if tokens[token.ID] != "" || families[token.Code] != "" {
				l.t.Fatalf("%s%s: %+v counts", tokens[token.ID], families[token.Code], token)
			}
		}
		if old, ok := refreshOf(s, e.once("refresh_token")); ok && e.status() == 200 && families[old.Code] != "" {
			l.t.Fatalf("%s: %+v is turned into a token", families[old.Code], old)
		}
		if code := e.answer; code != nil && code.code() != "" {
			l.checkAskedAnew(e)
		}
		c, isShown := l.client(e)
		isInvalid := e.answer != nil && e.answer.member("error") == "invalid_grant"
		if code, ok := codeOf(s, e.once("code")); ok && isInvalid && code.Used && isShown && c.ID == code.Client && e.grantOf("authorization_code", "code", "redirect_uri", "code_verifier") {
			families[code.ID] = "W9"
		}
		if old, ok := refreshOf(s, e.once("refresh_token")); ok && isInvalid && old.Used && isShown && c.ID == old.Client && e.grantOf("refresh_token", "refresh_token") {
			families[old.Code] = "W12"
		}
		if e.is("POST", "/revoke") && e.status() == 200 && isShown {
			if token, ok := tokenOf(s, e.once("token")); ok && token.Client == c.ID {
				tokens[token.ID] = "W11"
			}
			if old, ok := refreshOf(s, e.once("token")); ok && old.Client == c.ID {
				families[old.Code] = "W11"
			}
		}
		if user, client := l.takenBack(e); user != "" {
			for _, code := range s.Codes {
				if code.User == user && code.Client == client {
					families[code.ID] = "W13"
				}
			}
		}
	}
}

// checkAskedAnew: W13; a code is given out at once only where the user has allowed the client, and not taken it back.
func (l *ledger) checkAskedAnew(e entry) {
	l.t.Helper()
	s, _ := l.session(e)
	code, ok := codeOf(e.behind.State, e.answer.code())
	given, has := consentOf(e.behind.State, s.User, code.Client)
	if !ok || !has || code.User != s.User || !isWithin(code.Scopes, given.Scopes) {
		l.t.Fatalf("W13: %q gives out %+v behind %+v", e.step.Data, code, given)
	}
	if _, had := consentOf(e.before.State, s.User, code.Client); e.path == "/authorize" && !had {
		l.t.Fatalf("W13: %q gives out a code, and nobody was asked", e.step.Data)
	}
}
