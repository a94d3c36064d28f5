package world_test

import (
	"encoding/base64"
	"math/rand"
	"net/url"
	"strings"
	"testing"

	"usher/api"
)

// twin is a configuration with other passwords, salts and digests; the passwords are as long as those of config.
func twin(c api.Config) (api.Config, *strings.Replacer) {
	others := map[string]string{"ann": "PASSWORD", "bob": "pw", oddName: `'"<&>%+ `}
	webOther := "t4 dsfu:%+"
	c.Clients, c.Users = append([]api.Client{}, c.Clients...), append([]api.User{}, c.Users...)
	c.Clients[1].Secret, c.Clients[3].Secret = secretOf(webOther, "another salt"), secretOf("rehto", "y")
	var words []string
	for i, u := range c.Users {
		c.Users[i].Secret = secretOf(others[u.Name], "z"+decimal(i))
		words = append(words, "pass="+url.QueryEscape(passwords[u.Name]), "pass="+url.QueryEscape(others[u.Name]))
	}
	basic := func(name, pass string) string {
		return base64.StdEncoding.EncodeToString([]byte(name + ":" + url.QueryEscape(pass)))
	}
	words = append(words, basic("web", webPass), basic("web", webOther), basic("other", "other"), basic("other", "rehto"))
	words = append(words, "client_secret="+url.QueryEscape(webPass), "client_secret="+url.QueryEscape(webOther), "client_secret=other", "client_secret=rehto")
	return c, strings.NewReplacer(words...)
}

// TestPasswordsAreNotSeen: W20; with other passwords, each as right or as wrong as before, all that goes out and all that is written is the same.
func TestPasswordsAreNotSeen(t *testing.T) {
	t.Parallel()
	random := rand.New(rand.NewSource(210))
	tokens := 0
	for range 100 {
		p := newTroupe(t, random, true)
		p.playOn(200)
		other, replacer := twin(p.config)
		script := append([]api.Step{}, p.script...)
		for i := range script {
			if script[i].Kind == api.StepBytes {
				script[i].Data = replacer.Replace(script[i].Data)
			}
		}
		mustBeSame(t, "W20", mustRun(t, textOf(other), script...), mustRun(t, textOf(p.config), p.script...))
		tokens += len(p.tokens)
	}
	if tokens < 100 {
		t.Errorf("%d tokens: too few to tell", tokens)
	}
	// And with passwords of other lengths, right and wrong ones.
	for _, pass := range []string{"p", strings.Repeat("long ", 200), "\x00\xff", "a&b=c"} {
		c := config()
		c.Users[0].Secret = secretOf(pass, "salt")
		for _, guess := range []string{"no", pass + "x", strings.ToUpper(pass) + "!", "pass"} {
			got := mustRun(t, textOf(c), draw(1), bytesOn(0, login("ann", guess)), bytesOn(0, login("ann", pass)))
			want := mustRun(t, textOf(config()), draw(1), bytesOn(0, login("ann", "wrong")), bytesOn(0, login("ann", "password")))
			mustBeSame(t, "W20", got, want)
		}
	}
}

// TestNoPasswordIsWritten: neither into an answer nor onto the disk.
func TestNoPasswordIsWritten(t *testing.T) {
	c := config()
	c.Users[0].Secret = secretOf("CorrectHorse", "saltiness")
	c.Clients[1].Secret = secretOf("BatteryStaple", "saltiness")
	params := pairs("user", "ann", "pass", "CorrectHorse", "next", "/")
	about := pairs("token", id(3), "client_id", "web", "client_secret", "BatteryStaple")
	script := join(draws(1), onConn(0, posting("/login", params), posting("/login", with(params, "pass", "WrongHorse")), posting("/login", and(params, "pass", "CorrectHorse")), posting("/introspect", about), posting("/introspect", with(about, "client_secret", "WrongStaple")), posting("/nothing", params), posting("/consent", params, cookie(id(1)))))
	got := mustBeAsModel(t, c, script)
	for _, o := range got.Outs {
		for _, word := range []string{"Horse", "Staple", "saltiness"} {
			if strings.Contains(o.Text, word) || strings.Contains(got.Disk, word) {
				t.Errorf("W20: %s stands in %q, or on the disk", word, o.Text)
			}
		}
	}
}

// TestIdentifiersAreDraws: W20; none is one that a browser or a client has brought.
func TestIdentifiersAreDraws(t *testing.T) {
	brought := id(77)
	v := newVisitor(t, config())
	v.draw(1)
	raw := posting("/login", pairs("user", "ann", "pass", "password", "sid", brought, "next", "/?sid="+brought), cookie(brought))
	sid, _ := v.want(303, raw).sid()
	if sid != idOf(counted(0)) {
		t.Errorf("W20: the session is %q", sid)
	}
	v.draw(1)
	asked := question("offline_access read")
	form := and(asked, "ticket", ticketOf(sid, asked), "decision", "allow", "grant:read", "yes", "grant:offline_access", "yes", "code", brought)
	code := v.want(303, posting("/consent", form, cookie(sid))).code()
	if code != idOf(counted(1)) {
		t.Errorf("W20: the code is %q", code)
	}
	v.draw(2)
	r := v.want(200, posting("/token", and(redeemForm(code), "access_token", brought, "token", brought, "refresh_token", brought)))
	if r.member("access_token") != idOf(counted(2)) || r.member("refresh_token") != idOf(counted(3)) {
		t.Errorf("W20: the token and the refresh token are %q", r.body)
	}
	for i, id := range logged(v.trace.Disk) {
		if id != idOf(counted(i)) {
			t.Errorf("W20: the identifier %d is %q", i, id)
		}
	}
	ledgerOf(t, config(), v.script).checkAll()
}
