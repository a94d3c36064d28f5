package server_test

import (
	"math/rand"
	"net/url"
	"slices"
	"strings"
	"testing"

	"usher/api"
	"usher/jsonobj"
	"usher/page"
)

// A browser keeps a session's cookie and the page that it shows.
type browser struct {
	sid  string
	page api.Page
}

// take is what a browser makes of an answer: it keeps the cookie and the page.
func (w *browser) take(r api.Reply) {
	w.page = api.Page{}
	if p, err := page.Read(r.Body); err == nil {
		w.page = p
	}
	for _, f := range r.Fields {
		if f.Name == "Set-Cookie" {
			value, _, _ := strings.Cut(f.Value, ";")
			w.sid = strings.TrimPrefix(value, "sid=")
		}
	}
}

// asIt is a request as the browser sends it.
func (w *browser) asIt(q api.Request) api.Request {
	if w.sid == "" {
		return q
	}
	return by(w.sid, q)
}

// submit is the request that sends a form of the page, with what was typed and clicked.
func (w *browser) submit(form int, typed ...string) api.Request {
	f := w.page.Forms[form]
	return w.asIt(posting(f.Action, page.Sent(f, pairs(typed...))))
}

func locationOf(r api.Reply) string {
	value, _ := countOf(r.Fields, "Location")
	return value
}

// memberOf is a text of the object that is the answer's body.
func memberOf(r api.Reply, name string) string {
	members, _ := jsonobj.Read(r.Body)
	for _, m := range members {
		if m.Name == name {
			return m.Text
		}
	}
	return ""
}

// goTheWay is the good way of a user who is asked for some scopes and takes the boxes of some of them away, from the authorization request to the introspection.
func (b *bench) goTheWay(now int, user string, asked []api.Pair, away []string, who ...string) {
	b.t.Helper()
	w := &browser{}
	visit := func(q api.Request, status int) api.Reply {
		b.t.Helper()
		r, err := b.play(now, q)
		if err != nil || r.Status != status {
			b.t.Fatalf("W10: %+v answers %+v, %v, want %d", q, r, err, status)
		}
		w.take(r)
		return r
	}
	r := visit(authorize(asked), 303)
	visit(w.asIt(getting(locationOf(r))), 200)
	r = visit(w.submit(0, "user", user, "pass", passwords[user]), 303)
	visit(w.asIt(getting(locationOf(r))), 200)
	var clicks []string
	for _, scope := range away {
		clicks = append(clicks, "grant:"+scope, "yes")
	}
	r = visit(w.submit(0, clicks...), 303)
	to, err := url.Parse(locationOf(r))
	if err != nil || to.Query().Get("code") == "" || to.Query().Get("state") != valueOf(asked, "state") {
		b.t.Fatalf("W10: the browser is sent to %s, %v", locationOf(r), err)
	}
	redeem := posting("/token", and(pairs("grant_type", "authorization_code", "code", to.Query().Get("code"), "redirect_uri", valueOf(asked, "redirect_uri"), "code_verifier", verifier), who...))
	token := memberOf(visit(redeem, 200), "access_token")
	var scopes []string
	for _, scope := range strings.Fields(valueOf(asked, "scope")) {
		if !slices.Contains(away, scope) {
			scopes = append(scopes, scope)
		}
	}
	want := objectOf(200, []api.Member{
		flag("active", true), text("scope", strings.Join(scopes, " ")), text("client_id", valueOf(asked, "client_id")), text("username", user), text("token_type", "Bearer"), number("exp", now+3600), number("iat", now),
	})
	b.mustKeep(want, now, introspecting(token))
	b.mustKeep(want, now+3599, introspecting(token))
	b.mustKeep(inactive, now+3600, introspecting(token))
}

func valueOf(params []api.Pair, name string) string {
	value, _ := countOf(params, name)
	return value
}

// TestTheGoodWay: every user, every client, every choice of its scopes, with one of them taken away or none; each on a server on which all others have gone it before.
func TestTheGoodWay(t *testing.T) {
	b := newBench(t, config())
	draws, ways := 0, 0
	for _, user := range []string{"ann", "bob", oddName} {
		for _, client := range config().Clients {
			who := []string{"client_id", client.ID}
			if !client.Public {
				who = append(who, "client_secret", webPass)
			}
			for chosen := 1; chosen < 1<<len(client.Scopes); chosen++ {
				var scopes []string
				for i, scope := range client.Scopes {
					if chosen&(1<<i) != 0 {
						scopes = append(scopes, scope)
					}
				}
				asked := with(with(with(question(strings.Join(scopes, " ")), "client_id", client.ID), "redirect_uri", client.Redirects[0]), "state", oneOfTexts(ways))
				aways := [][]string{nil}
				if len(scopes) > 1 {
					aways = [][]string{scopes[:1], scopes[1:], nil}
				}
				for _, away := range aways {
					for range 5 { // two sessions, a code, a token, perhaps a refresh token
						b.pushDraw(counted(draws))
						draws++
					}
					b.goTheWay(10+ways, user, asked, away, who...)
					b.forget(user, client.ID, 10+ways)
					ways++
				}
			}
		}
	}
	if ways < 60 {
		t.Errorf("%d ways: too few to tell", ways)
	}
}

func oneOfTexts(n int) string {
	return []string{"x", "s 1", "&=%", `"'<>`, "~!@#$^*()", strings.Repeat("s", 512)}[n%6]
}

// forget takes back what the user has allowed the client, so that the next way begins with a question again; the draws that are left are let go.
func (b *bench) forget(user, client string, now int) {
	b.t.Helper()
	for b.source.Left() > 1 {
		b.source.Fresh(nil)
		b.model.source.Fresh(nil)
	}
	r, err := b.play(now, login(user, passwords[user]))
	w := &browser{}
	w.take(r)
	if err != nil || w.sid == "" {
		b.t.Fatalf("W10: a login answers %+v, %v", r, err)
	}
	b.must(redirect("/"), now, withdrawing(w.sid, client))
}

// oneOf is one of these by chance.
func oneOf[T any](random *rand.Rand, list ...T) T { return list[random.Intn(len(list))] }
