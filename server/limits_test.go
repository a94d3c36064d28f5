package server_test

import (
	"strings"
	"testing"

	"usher/api"
	"usher/reply"
)

// TestTheLongestPlaces: a target and a body as long as they may be, of what is longest when it is escaped.
func TestTheLongestPlaces(t *testing.T) {
	b := newBench(t, config())
	for _, c := range []string{`"`, "'", "&", "%22", "%26", "a", "+", "%20"} {
		fill := func(head string, room int) string {
			text := head + strings.Repeat(c, (room-len(head))/len(c))
			return text + strings.Repeat("a", room-len(text))
		}
		target := fill("/login?next=/", api.MaxHead)
		body := fill("user=ann&pass=no&next=/", api.MaxBody)
		b.play(5, getting(target))
		b.play(5, request("HEAD", target))
		b.play(5, getting(fill("/?next=/", api.MaxHead)))
		b.play(5, sending("/login", body))
		b.play(5, sending(target, body))
		b.play(5, getting(fill("/authorize?"+formOf(question("read"))+"&x=", api.MaxHead)))
		b.play(5, getting(fill("/"+c, api.MaxHead)))
		for _, path := range paths() {
			b.play(5, sending(path, fill("token=", api.MaxBody)))
			b.play(5, sending(path, fill("client_id=app&token=", api.MaxBody)))
		}
	}
	got, _ := b.play(5, getting("/login?next=/"+strings.Repeat(`"`, api.MaxHead-13)))
	if len(got.Body) < 6*(api.MaxHead-13) || len(got.Body) > api.MaxReply {
		t.Errorf("layer 19, 'Limits': a body of %d bytes", len(got.Body))
	}
}

// TestTheLongestHome: with names and scopes as long as they may be, of what is longest when it is escaped, and more consents than are told.
func TestTheLongestHome(t *testing.T) {
	c := config()
	user := strings.Repeat(`"`, api.MaxName)
	c.Users = append(c.Users, api.User{Name: user, Secret: secretOf("pw")})
	b := newBench(t, c)
	b.push(1)
	b.must(entered("/", id(1)), 5, login(user, "pw"))
	var scopes, given []string
	for n := range api.MaxScopes {
		scopes = append(scopes, strings.Repeat("'", api.MaxScope-1)+string(rune('A'+n)))
	}
	for n := range 70 {
		client := string(rune('0'+n)) + strings.Repeat(`"`, api.MaxName-1)
		given = append(given, client, strings.Join(scopes, " "))
		b.commit(consentRecord(user, client, 5, scopes...))
	}
	b.must(homeOf(id(1), user, given[:128]...), 6, by(id(1), getting("/")))
}

// TestTheLongestQuestion: a consent page of the longest names, scopes, address and state; and the redirects to and from it.
func TestTheLongestQuestion(t *testing.T) {
	c := config()
	var scopes []string
	for n := range api.MaxScopes {
		scopes = append(scopes, strings.Repeat("'", api.MaxScope-1)+string(rune('A'+n)))
	}
	longest := api.Client{ID: strings.Repeat(`"`, api.MaxName), Public: true, Redirects: []string{"https://a.example/" + strings.Repeat("'", api.MaxRedirect-18)}, Scopes: scopes}
	c.Clients = append(c.Clients, longest)
	b := newBench(t, c)
	sid := b.begin("ann", 1)
	scope, state := strings.Join(scopes, " "), strings.Repeat(`"`, api.MaxState)
	q := pairs("client_id", longest.ID, "redirect_uri", longest.Redirects[0], "response_type", "code", "scope", scope, "state", state, "code_challenge", strings.Repeat("~", 128), "code_challenge_method", "S256")
	b.must(toLogin("/authorize?"+formOf(q)), 6, authorize(q))
	b.must(consentOf(sid, longest.ID, "ann", q, scopes...), 6, by(sid, authorize(q)))
	back := longest.Redirects[0] + "?error=access_denied&state=" + strings.Repeat("%22", api.MaxState)
	b.must(redirect(back), 6, deciding(sid, q, "deny"))
	var boxes []string
	for _, s := range scopes {
		boxes = append(boxes, "grant:"+s, "yes")
	}
	b.push(2, 3)
	b.must(redirect(strings.Replace(back, "error=access_denied", "code="+id(2), 1)), 6, deciding(sid, q, "allow", boxes...))
	b.must(homeOf(sid, "ann", longest.ID, scope), 6, by(sid, getting("/")))
}

// TestBeyondTheLimits: a request that no intake lets in is answered, too, though the answer may be too long to be written.
func TestBeyondTheLimits(t *testing.T) {
	b := newBench(t, config())
	next := "/" + strings.Repeat(`"`, 1<<18)
	b.must(loginPage(next), 5, getting("/login?next="+next))
	b.must(denied(next), 5, login("ann", "no", "next", next))
	if _, err := reply.Render(loginPage(next), false); err != api.ErrMany {
		t.Errorf("a test takes for too long what is not: %v", err)
	}
	fields := make([]string, 2*5000)
	q := getting("/", fields...)
	b.must(strangers, 5, q)
}
