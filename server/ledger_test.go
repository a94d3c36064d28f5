package server_test

import (
	"encoding/base64"
	"net/url"
	"slices"
	"strings"

	"usher/api"
)

// The ledger holds DOC.md's promises of the whole, as far as they speak of the server, against what each request has changed and been answered.

// A sender is who a request is from: the user of its session, and whom it names.
type sender struct {
	sid, user    string // of a session that lives
	login        string // whom it wants to log in
	client       string // whom it names as the client, in its form, its query or its field
	path, method string
}

// senderOf reads a request with the library's own means.
func (b *bench) senderOf(now int, q api.Request, state api.State) sender {
	path, query, _ := strings.Cut(q.Target, "?")
	if q.Method == "POST" {
		query = q.Body
	}
	values, _ := url.ParseQuery(query)
	named := func(name string) string { return strings.Join(values[name], "") } // what is there twice names nobody
	s := sender{path: path, method: q.Method, login: named("user"), client: named("client_id")}
	for _, v := range valuesOf(q.Fields, "authorization") {
		if v != "" && isBack(path) {
			text, _ := base64.StdEncoding.DecodeString(strings.TrimPrefix(v, "Basic "))
			name, _, _ := strings.Cut(string(text), ":")
			s.client, _ = url.QueryUnescape(name)
		}
	}
	for _, v := range state.Sessions {
		if v.ID == sidOf(q) && !v.Ended && now < v.At+b.config.SessionLife {
			s.sid, s.user = v.ID, v.User
		}
	}
	return s
}

// changes are the things that were not there before, or not so; the second list are those that are gone.
func changes[T any](before, behind []T, key func(T) string, isEqual func(a, b T) bool) (changed, gone []T) {
	was, is := map[string]T{}, map[string]T{}
	for _, v := range before {
		was[key(v)] = v
	}
	for _, v := range behind {
		is[key(v)] = v
		if old, ok := was[key(v)]; !ok || !isEqual(old, v) {
			changed = append(changed, v)
		}
	}
	for _, v := range before {
		if _, ok := is[key(v)]; !ok {
			gone = append(gone, v)
		}
	}
	return changed, gone
}

// isTheirs fails unless all that has changed belongs to who has sent the request (W16), and nothing is gone but a consent.
func (b *bench) isTheirs(s sender, before, behind api.State) {
	b.t.Helper()
	sessions, gone1 := changes(before.Sessions, behind.Sessions, func(v api.Session) string { return v.ID }, func(a, b api.Session) bool { return a == b })
	consents, taken := changes(before.Consents, behind.Consents, func(v api.Consent) string { return v.User + "\n" + v.Client }, func(a, b api.Consent) bool { return a.At == b.At && slices.Equal(a.Scopes, b.Scopes) })
	codes, gone2 := changes(before.Codes, behind.Codes, func(v api.Code) string { return v.ID }, func(a, b api.Code) bool { return a.Used == b.Used && a.Burned == b.Burned })
	tokens, gone3 := changes(before.Tokens, behind.Tokens, func(v api.Token) string { return v.ID }, func(a, b api.Token) bool { return a.Revoked == b.Revoked })
	refreshes, gone4 := changes(before.Refreshes, behind.Refreshes, func(v api.Refresh) string { return v.ID }, func(a, b api.Refresh) bool { return a.Used == b.Used })
	if len(gone1)+len(gone2)+len(gone3)+len(gone4) > 0 {
		b.t.Fatalf("W16: something is gone: %+v behind %+v", behind, before)
	}
	isOther := false
	for _, v := range sessions {
		isBegun := s.path == "/login" && s.method == "POST" && v.User == s.login && !v.Ended
		isEnded := s.path == "/logout" && s.method == "POST" && v.ID == s.sid && v.Ended
		isOther = isOther || !isBegun && !isEnded
	}
	isFront := s.user != "" && (s.path == "/authorize" || s.path == "/consent" || s.path == "/withdraw")
	isDesk := s.method == "POST" && isBack(s.path) && s.path != "/introspect"
	for _, v := range consents {
		isOther = isOther || s.path != "/consent" || !isFront || v.User != s.user || v.Client != s.client
	}
	for _, v := range taken {
		isOther = isOther || s.path != "/withdraw" || !isFront || v.User != s.user || v.Client != s.client
	}
	for _, v := range codes {
		isOther = isOther || v.Client != s.client || !isDesk && (!isFront || v.User != s.user)
	}
	for _, v := range tokens {
		isOther = isOther || !isDesk || v.Client != s.client
	}
	for _, v := range refreshes {
		isOther = isOther || !isDesk || v.Client != s.client
	}
	if isOther {
		b.t.Fatalf("W16: %+v has changed %+v to %+v", s, before, behind)
	}
}

// staysHere fails unless the browser is sent to a place of this server, or to an address that the client of the request has registered, with a code or an error (W15).
func (b *bench) staysHere(s sender, r api.Reply) {
	b.t.Helper()
	to := locationOf(r)
	if (to != "") != (r.Status == 303) {
		b.t.Fatalf("P19.5: %+v", r)
	}
	if r.Status != 303 || strings.HasPrefix(to, "/") && !strings.HasPrefix(to, "//") && !strings.HasPrefix(to, `/\`) {
		return
	}
	isRegistered := false
	for _, c := range b.config.Clients {
		for _, known := range c.Redirects {
			rest, found := strings.CutPrefix(to, known)
			rest = strings.TrimLeft(rest, "?&")
			isRegistered = isRegistered || found && c.ID == s.client && (strings.HasPrefix(rest, "code=") || strings.HasPrefix(rest, "error="))
		}
	}
	if !isRegistered || s.path != "/authorize" && s.path != "/consent" {
		b.t.Fatalf("W15: %+v is sent to %q", s, to)
	}
}

// isRefusal: does an answer say that nothing was done? (An invalid_grant may end a family.)
func isRefusal(r api.Reply) bool {
	return r.Status >= 400 && memberOf(r, "error") != "invalid_grant"
}

// step plays a request, and enters it into the ledger.
func (b *bench) step(now int, q api.Request) (api.Reply, error) {
	b.t.Helper()
	before, lies := b.store.State(), look(b.disk)
	s := b.senderOf(now, q, before)
	r, err := b.play(now, q)
	behind := b.store.State()
	if err != nil {
		if !isSameState(before, behind) {
			b.t.Fatalf("P19.6: %+v, which died, has changed %+v to %+v", q, before, behind)
		}
		return r, err
	}
	b.isTheirs(s, before, behind)
	b.staysHere(s, r)
	if (isRefusal(r) || q.Method == "HEAD" || s.path == "/introspect") && (!isSameState(before, behind) || len(look(b.disk)) != len(lies)) {
		b.t.Fatalf("W3: %+v answers %+v and has changed %+v to %+v", q, r, before, behind)
	}
	return r, err
}
