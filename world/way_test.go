package world_test

import (
	"slices"
	"strings"
	"testing"

	"usher/api"
)

// ways are several users and clients: each asks for some scopes, and is allowed some of them.
func ways() []way {
	var list []way
	named := []string{"client_id", "app"}
	for _, asked := range []string{"read", "read write", "write offline_access read"} {
		scopes := strings.Split(asked, " ")
		for set := range 1<<len(scopes) - 1 { // of all sets but the full one these boxes are taken away
			var away []string
			for i, s := range scopes {
				if set>>i&1 == 1 {
					away = append(away, s)
				}
			}
			list = append(list, way{user: "ann", question: question(asked), away: away, named: named})
		}
	}
	webs := with(with(with(question("read offline_access"), "client_id", "web"), "redirect_uri", webAddress), "state", `a"b&c=d <e>`)
	odd := with(with(with(question("'&' <b>"), "client_id", oddName), "redirect_uri", oddAddress), "state")
	return append(list,
		way{user: "bob", question: webs, client: []string{asWeb()}},
		way{user: "bob", question: webs, away: []string{"offline_access"}, named: []string{"client_id", "web", "client_secret", webPass}},
		way{user: oddName, question: odd, away: []string{"<b>"}, named: []string{"client_id", oddName}},
		way{user: oddName, question: with(question("read"), "redirect_uri", "com.example.app:/cb?k?"), named: named},
	)
}

// allowed are the scopes whose boxes are left, in their order.
func (w way) allowed() string {
	scopes := slices.DeleteFunc(strings.Split(w.of("scope"), " "), func(s string) bool { return slices.Contains(w.away, s) })
	slices.Sort(scopes)
	return strings.Join(scopes, " ")
}

// TestTheGoodWay: W10; from the login form to a token that counts, with just the allowed scopes, until its end.
func TestTheGoodWay(t *testing.T) {
	for n, w := range ways() {
		v := newVisitor(t, config())
		v.fresh = n%2 == 1
		_, code := w.goTo(v, n%3 == 0)
		v.do(tick(59))
		r := w.redeem(v, code)
		token := r.member("access_token")
		if r.member("scope") != w.allowed() || (r.member("refresh_token") != "") != strings.Contains(w.allowed(), "offline_access") {
			t.Errorf("W10: %q is allowed, and given is %q", w.allowed(), r.body)
		}
		for _, step := range []api.Step{tick(0), tick(1), crash(0), tick(3598)} {
			v.do(step)
			got := v.want(200, introspecting(token))
			if !got.isActive() || got.member("scope") != w.allowed() || got.member("client_id") != w.of("client_id") || got.member("username") != w.user {
				t.Fatalf("W10: %q is allowed %s, and told is %q", w.allowed(), w.of("client_id"), got.body)
			}
		}
		v.do(tick(1))
		v.mustCount("W10: behind its end", false, token)
		ledgerOf(t, config(), slices.DeleteFunc(slices.Clone(v.script), func(s api.Step) bool { return s.Kind == api.StepClose })).checkAll()
	}
}

// TestTheChain: W10 and W12; a refresh token leads on to the next, as long as nobody shows an old one; each token counts until its own end.
func TestTheChain(t *testing.T) {
	c := config()
	c.TokenLife = 50
	v, _, _, token, refresh := family(t, c)
	tokens := []string{token}
	for n := range 6 {
		v.do(tick(20))
		v.draw(2)
		r := v.want(200, renewing(refresh, "scope", []string{"read", "offline_access read", ""}[n%3]))
		tokens, refresh = append(tokens, r.member("access_token")), r.member("refresh_token")
		if n%2 == 0 {
			v.do(crash(0))
		}
		from := max(0, len(tokens)-3) // given 40, 20 and 0 ticks ago
		v.mustCount("W10", true, tokens[from:]...)
		v.mustCount("W10", false, tokens[:from]...)
	}
}

// TestTheEndsOfLives: at the last tick of a life all is as ever, one later it is over.
func TestTheEndsOfLives(t *testing.T) {
	c := config()
	c.SessionLife, c.CodeLife, c.TokenLife, c.RefreshLife = 100, 40, 60, 80
	v := newVisitor(t, c)
	sid := v.enter("ann")
	v.do(tick(99))
	at := v.fork()
	at.allow(sid, question("read"), "read")
	late := v.fork()
	late.do(tick(1))
	late.draw(1)
	if to := late.mustKeep("W6", 303, deciding(sid, question("read"), "allow", "read")).location(); to != "/login" {
		t.Errorf("W6: behind the end of a session: %q", to)
	}
	code := v.allow(sid, question("offline_access read"), "offline_access", "read")
	v.do(tick(39))
	late = v.fork()
	late.do(tick(1))
	late.draw(2)
	if r := late.mustKeep("W7", 400, redeeming(code)); r.member("error") != "invalid_grant" {
		t.Errorf("W7: behind the end of a code: %q", r.body)
	}
	token, refresh := v.redeem(code)
	v.do(tick(59))
	v.mustCount("W10", true, token)
	v.do(tick(1))
	v.mustCount("W10", false, token)
	v.do(tick(19))
	late = v.fork()
	late.do(tick(1))
	late.draw(2)
	if r := late.mustKeep("W12", 400, renewing(refresh)); r.member("error") != "invalid_grant" {
		t.Errorf("W12: behind the end of a refresh token: %q", r.body)
	}
	v.draw(2)
	v.want(200, renewing(refresh))
}
