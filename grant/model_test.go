package grant_test

import (
	"crypto/hmac"
	"crypto/sha256"
	"encoding/base64"
	"net/url"
	"slices"
	"strings"

	"usher/api"
)

// The model says what a call must answer, what it must write, and how many draws it must use up, by the words of the chapter. It leans on none of the layers below but on the store, which it asks for its State alone.

// guess is a user's brake.
type guess struct{ count, last int }

// onTime is the time that counts for a brake.
func onTime(now int) int {
	switch {
	case now < 0:
		return 0
	case now > api.MaxNow:
		return api.MaxNow
	}
	return now
}

func (b *bench) isLocked(desk int, user string, now int) bool {
	g := b.brakes[desk][user]
	return b.config.Fails >= 1 && b.config.LockTime >= 1 && g.count >= b.config.Fails && onTime(now) < g.last+b.config.LockTime
}

// expect is the answer on a disk that is alive and has room, how many draws are used up, and the transaction.
func (b *bench) expect(c call) (want answer, used int, tx []api.Record) {
	switch c.name {
	case "Login":
		return b.expectLogin(c)
	case "Wait":
		if b.isLocked(c.desk, c.user, c.now) {
			want.wait = b.brakes[c.desk][c.user].last + b.config.LockTime - onTime(c.now)
		}
		return want, 0, nil
	}
	state := b.store.State()
	user, lives := liver(state, c.sid, c.now, b.config.SessionLife)
	switch c.name {
	case "Logout":
		if lives {
			tx = []api.Record{{Kind: api.RecEnded, ID: c.sid}}
		}
	case "Who":
		want.text, want.ok = user, lives
	case "Given":
		want.ok = lives
		for _, consent := range state.Consents {
			if lives && consent.User == user {
				want.consents = append(want.consents, consent)
			}
		}
	case "Ask", "Answer":
		return b.expectVerdict(c, state, user, lives)
	case "Withdraw":
		want.verdict, tx = expectWithdrawal(c, state, user, lives)
	}
	return want, 0, tx
}

func (b *bench) expectLogin(c call) (want answer, used int, tx []api.Record) {
	if !slices.ContainsFunc(b.config.Users, func(u api.User) bool { return u.Name == c.user }) {
		return refusal(api.ErrDenied), 0, nil
	}
	if b.isLocked(c.desk, c.user, c.now) {
		return refusal(api.ErrMany), 0, nil
	}
	g, now := b.brakes[c.desk][c.user], onTime(c.now)
	if c.pass != b.passwords[c.user] {
		if now >= g.last+b.config.LockTime {
			b.brakes[c.desk][c.user] = guess{1, now}
		} else {
			b.brakes[c.desk][c.user] = guess{g.count + 1, now}
		}
		return refusal(api.ErrDenied), 0, nil
	}
	b.brakes[c.desk][c.user] = guess{0, g.last}
	fresh, used, err := b.fresh(c.now)
	if err != nil {
		return refusal(err), used, nil
	}
	return answer{text: fresh}, used, []api.Record{sessionRecord(fresh, c.user, c.now)}
}

// fresh is the next draw's identifier for a record of that time.
func (b *bench) fresh(now int) (fresh string, used int, err error) {
	if len(b.draws) == 0 {
		return "", 0, api.ErrDry
	}
	fresh = idOf(b.draws[0])
	switch s := b.store.State(); {
	case slices.ContainsFunc(s.Sessions, func(v api.Session) bool { return v.ID == fresh }),
		slices.ContainsFunc(s.Codes, func(v api.Code) bool { return v.ID == fresh }),
		slices.ContainsFunc(s.Tokens, func(v api.Token) bool { return v.ID == fresh }),
		slices.ContainsFunc(s.Refreshes, func(v api.Refresh) bool { return v.ID == fresh }):
		return "", 1, api.ErrTaken
	}
	if now < 0 || now > api.MaxNow {
		return "", 1, api.ErrArg
	}
	return fresh, 1, nil
}

// liver is the user of a session that lives.
func liver(s api.State, sid string, now, life int) (string, bool) {
	for _, v := range s.Sessions {
		if v.ID == sid && !v.Ended && now < v.At+life {
			return v.User, true
		}
	}
	return "", false
}

// valuesOf is the values of a parameter that count.
func valuesOf(params []api.Pair, name string) []string {
	var list []string
	for _, p := range params {
		if p.Name == name && p.Value != "" {
			list = append(list, p.Value)
		}
	}
	return list
}

// valueOf is the value of a parameter that counts just once; else it is empty.
func valueOf(params []api.Pair, name string) string {
	if list := valuesOf(params, name); len(list) == 1 {
		return list[0]
	}
	return ""
}

func isMadeOf(s string, least, most int, mayBe func(b byte) bool) bool {
	if len(s) < least || len(s) > most {
		return false
	}
	for i := range len(s) {
		if !mayBe(s[i]) {
			return false
		}
	}
	return true
}

func isState(s string) bool {
	return isMadeOf(s, 1, 512, func(b byte) bool { return b >= 0x20 && b <= 0x7e })
}

func isChallenge(s string) bool {
	return isMadeOf(s, 43, 128, func(b byte) bool {
		return strings.IndexByte("ABCDEFGHIJKLMNOPQRSTUVWXYZabcdefghijklmnopqrstuvwxyz0123456789-._~", b) >= 0
	})
}

// scopesOf is the scopes of a text, rising, each once; none, if it is no such text.
func scopesOf(s string) []string {
	list := strings.Split(s, " ")
	for _, scope := range list {
		if !isMadeOf(scope, 1, 32, func(b byte) bool { return b > 0x20 && b < 0x7f && b != '"' && b != '\\' }) {
			return nil
		}
	}
	slices.Sort(list)
	list = slices.Compact(list)
	if len(list) > 16 {
		return nil
	}
	return list
}

func holds(all, part []string) bool {
	return !slices.ContainsFunc(part, func(s string) bool { return !slices.Contains(all, s) })
}

// formOf is pairs as a form.
func formOf(list []api.Pair) string {
	var pieces []string
	for _, p := range list {
		pieces = append(pieces, url.QueryEscape(p.Name)+"="+url.QueryEscape(p.Value))
	}
	return strings.Join(pieces, "&")
}

func ticketOf(sid string, list []api.Pair) string {
	mac := hmac.New(sha256.New, []byte(sid))
	mac.Write([]byte(formOf(list)))
	return base64.RawURLEncoding.EncodeToString(mac.Sum(nil))
}

// placed is an address with parameters put into it.
func placed(redirect string, list []api.Pair) string {
	switch at := strings.IndexByte(redirect, '?'); {
	case at < 0:
		redirect += "?"
	case at < len(redirect)-1:
		redirect += "&"
	}
	return redirect + formOf(list)
}

// sent is how an error or a code is sent back.
func sent(params []api.Pair, name, value string) answer {
	list := pairs(name, value)
	if state := valueOf(params, "state"); isState(state) {
		list = and(list, "state", state)
	}
	to := placed(valueOf(params, "redirect_uri"), list)
	if name == "code" {
		return code(value, to)
	}
	return back(value, to)
}

// wellFormed is the question of parameters and its scopes; or the verdict of the first row of P16.5's table that applies.
func wellFormed(c api.Config, params []api.Pair) (question []api.Pair, scopes []string, bad *answer) {
	shown := func(reason string) ([]api.Pair, []string, *answer) {
		a := page(reason)
		return nil, nil, &a
	}
	back := func(reason string) ([]api.Pair, []string, *answer) {
		a := sent(params, "error", reason)
		return nil, nil, &a
	}
	value := func(name string) string { return valueOf(params, name) }
	if value("client_id") == "" {
		return shown(api.InvalidRequest)
	}
	place := slices.IndexFunc(c.Clients, func(v api.Client) bool { return v.ID == value("client_id") })
	if place < 0 {
		return shown(api.InvalidClient)
	}
	client := c.Clients[place]
	if value("redirect_uri") == "" || !slices.Contains(client.Redirects, value("redirect_uri")) {
		return shown(api.InvalidRequest)
	}
	if len(valuesOf(params, "state")) > 0 && !isState(value("state")) {
		return back(api.InvalidRequest)
	}
	if value("response_type") == "" {
		return back(api.InvalidRequest)
	}
	if value("response_type") != "code" {
		return back(api.UnsupportedResponseType)
	}
	if scopes = scopesOf(value("scope")); scopes == nil || !holds(client.Scopes, scopes) {
		return back(api.InvalidScope)
	}
	if !isChallenge(value("code_challenge")) || value("code_challenge_method") != "S256" {
		return back(api.InvalidRequest)
	}
	for _, name := range strings.Fields("client_id redirect_uri response_type scope state code_challenge code_challenge_method") {
		if v := value(name); name == "scope" {
			question = and(question, name, strings.Join(scopes, " "))
		} else if v != "" {
			question = and(question, name, v)
		}
	}
	return question, scopes, nil
}

func (b *bench) expectVerdict(c call, state api.State, user string, lives bool) (want answer, used int, tx []api.Record) {
	question, scopes, bad := wellFormed(b.config, c.params)
	if bad != nil {
		return *bad, 0, nil
	}
	if !lives {
		return toLogin(question), 0, nil
	}
	client := valueOf(c.params, "client_id")
	if c.name == "Ask" {
		for _, consent := range state.Consents {
			if consent.User == user && consent.Client == client && holds(consent.Scopes, scopes) {
				return b.expectCode(c, user, scopes, nil)
			}
		}
		return toConsent(c.sid, user, question, scopes...), 0, nil
	}
	if valueOf(c.params, "ticket") != ticketOf(c.sid, question) {
		return forged, 0, nil
	}
	decision := valueOf(c.params, "decision")
	if decision != "allow" && decision != "deny" {
		return page(api.InvalidRequest), 0, nil
	}
	approved := approvedOf(c.params, scopes)
	if decision == "deny" || len(approved) == 0 {
		return sent(c.params, "error", api.AccessDenied), 0, nil
	}
	return b.expectCode(c, user, approved, []api.Record{consentRecord(user, client, c.now, approved...)})
}

func approvedOf(params []api.Pair, scopes []string) []string {
	var list []string
	for _, scope := range scopes {
		if valueOf(params, "grant:"+scope) == "yes" {
			list = append(list, scope)
		}
	}
	return list
}

func (b *bench) expectCode(c call, user string, scopes []string, ahead []api.Record) (want answer, used int, tx []api.Record) {
	fresh, used, err := b.fresh(c.now)
	if err != nil {
		return refusal(err), used, nil
	}
	r := codeRecord(fresh, user, valueOf(c.params, "client_id"), c.now, scopes...)
	r.Redirect, r.Challenge = valueOf(c.params, "redirect_uri"), valueOf(c.params, "code_challenge")
	return sent(c.params, "code", fresh), used, append(ahead, r)
}

func expectWithdrawal(c call, state api.State, user string, lives bool) (api.Verdict, []api.Record) {
	client := valueOf(c.params, "client_id")
	switch {
	case !lives:
		return api.Verdict{Kind: api.VerLogin}, nil
	case client == "":
		return page(api.InvalidRequest).verdict, nil
	case valueOf(c.params, "ticket") != ticketOf(c.sid, pairs("client_id", client)):
		return forged.verdict, nil
	case !slices.ContainsFunc(state.Consents, func(v api.Consent) bool { return v.User == user && v.Client == client }):
		return done.verdict, nil
	}
	return done.verdict, []api.Record{{Kind: api.RecWithdrawn, User: user, Client: client}}
}
