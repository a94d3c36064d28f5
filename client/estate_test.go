package client_test

import (
	"fmt"
	"slices"
	"strings"
	"testing"

	"usher/agent"
	"usher/api"
	"usher/bearer"
	"usher/client"
	"usher/field"
	"usher/intake"
	"usher/jsonobj"
	"usher/reply"
	"usher/world"
)

// estateConfig: all passwords are the text password.
const estateConfig = `code-life 60
token-life 3600
session-life 86400
refresh-life 100000
disk 100000
head 8192
body 4096
rounds 1
client app public
redirect https://a.example/cb
scopes offline_access read write
client web secret 73616c74 120fb6cffcf8b32c43e7225256c4f837a86548c92ccc35480805987cb70be17b
redirect https://w.example/cb?code=k&state=s
scopes offline_access read write
client shop secret 73616c74 120fb6cffcf8b32c43e7225256c4f837a86548c92ccc35480805987cb70be17b
redirect https://s.example/
scopes read
user ann 73616c74 120fb6cffcf8b32c43e7225256c4f837a86548c92ccc35480805987cb70be17b
`

const password = "password"

// The connections of those who talk to the server.
const (
	ofBrowser = 0
	ofClient  = 1
	ofShop    = 2
)

// An estate is the whole server over raw bytes, a browser of ann's in front of it, and a client and a shop (a resource) beside it.
type estate struct {
	t       *testing.T
	browser *agent.Agent
	client  *client.Client
	guard   *bearer.Guard
	script  []api.Step
	now     int
	sent    int
	kept    api.State
}

func newEstate(t *testing.T, draws int, id, secret string, scopes ...string) *estate {
	t.Helper()
	redirect := map[string]string{"app": "https://a.example/cb", "web": "https://w.example/cb?code=k&state=s"}[id]
	c, err := client.New(id, secret, redirect, scopes)
	if err != nil {
		t.Fatal(err)
	}
	guard, err := bearer.New(0)
	if err != nil {
		t.Fatal(err)
	}
	s := &estate{t: t, browser: agent.New(), client: c, guard: guard}
	for i := range draws {
		s.script = append(s.script, api.Step{Kind: api.StepDraw, Data: draw(1000 + i)})
	}
	return s
}

func (s *estate) tick(n int) {
	s.now += n
	s.script = append(s.script, api.Step{Kind: api.StepTick, N: n})
}

// answerTo is what goes out for a request: the script is played once more, with it behind all else.
func (s *estate) answerTo(conn int, q api.Request) api.Reply {
	s.t.Helper()
	text, err := intake.Write(q)
	if err != nil {
		s.t.Fatalf("Words: Write(%s): %v", told(q), err)
	}
	s.sent++
	s.script = append(s.script, api.Step{Kind: api.StepBytes, Conn: conn, Data: text})
	trace, err := world.Run(estateConfig, s.script)
	if err != nil || len(trace.Outs) != s.sent {
		s.t.Fatalf("%d requests, %d answers, %v", s.sent, len(trace.Outs), err)
	}
	s.kept = trace.State
	r, _, err := reply.Read(trace.Outs[s.sent-1].Text)
	if err != nil {
		s.t.Fatal(err)
	}
	return r
}

// browse sends a request of the browser, and those to which its answers lead.
func (s *estate) browse(q api.Request, err error) {
	s.t.Helper()
	for more := 1; more == 1 && err == nil; {
		q, more, err = s.browser.Take(s.now, s.answerTo(ofBrowser, q))
	}
	if err != nil {
		s.t.Fatal(err)
	}
}

// decide goes from a target to where the server sends the browser; ann logs in, if she is asked to, takes the boxes of some scopes away, and sends that form.
func (s *estate) decide(target string, form int, without ...string) string {
	s.t.Helper()
	s.browse(s.browser.Visit(s.now, target))
	if p, _ := s.browser.Page(); p.Title == "Log in" {
		s.browse(s.browser.Submit(s.now, 0, pairs("user", "ann", "pass", password)))
	}
	if p, _ := s.browser.Page(); p.Title != "Allow access" {
		return s.browser.Where()
	}
	var clicks []string
	for _, scope := range without {
		clicks = append(clicks, "grant:"+scope, "yes")
	}
	s.browse(s.browser.Submit(s.now, form, pairs(clicks...)))
	return s.browser.Where()
}

// begin is the target of a beginning with the draws of that number and the one behind it.
func (s *estate) begin(number int) string {
	s.t.Helper()
	target, err := s.client.Begin(draw(number), draw(number+1))
	if err != nil {
		s.t.Fatal(err)
	}
	return target
}

// ask sends a request of the client and takes its answer.
func (s *estate) ask(q api.Request, err error) error {
	s.t.Helper()
	if err != nil {
		s.t.Fatalf("W18: there is no request: %v", err)
	}
	return s.client.Take(s.now, s.answerTo(ofClient, q))
}

func (s *estate) must(got, want error) {
	s.t.Helper()
	if got != want {
		s.t.Fatalf("W18: a call answers %v (failure %q), want %v", got, s.client.Failed(), want)
	}
}

// toToken goes the whole way, but for some scopes that ann does not allow.
func (s *estate) toToken(without ...string) {
	s.t.Helper()
	s.must(s.client.Return(s.decide(s.begin(1), 0, without...)), nil)
	s.tick(5)
	s.must(s.ask(s.client.Redeem()), nil)
}

// mustKeep fails unless the client's token is one that the server keeps, with these scopes; it answers it.
func (s *estate) mustKeep(id string, scopes []string) string {
	s.t.Helper()
	text, ok := s.client.Token(s.now)
	at := slices.IndexFunc(s.kept.Tokens, func(t api.Token) bool { return t.ID == text })
	if !ok || at < 0 {
		s.t.Fatalf("P24.8: the server keeps no token %q", text)
	}
	kept := s.kept.Tokens[at]
	if kept.Client != id || kept.User != "ann" || kept.Revoked || !slices.Equal(kept.Scopes, scopes) || !slices.Equal(s.client.Scopes(), scopes) {
		s.t.Fatalf("P24.8: the server keeps %+v, the client has the scopes %q; want %q", kept, s.client.Scopes(), scopes)
	}
	return text
}

// introspected is what the server tells the shop of a token.
func (s *estate) introspected(token string) []api.Member {
	s.t.Helper()
	body := formOf("token", token)
	r := s.answerTo(ofShop, api.Request{Method: "POST", Target: "/introspect", Minor: 1, Body: body, Fields: pairs("host", "usher", "content-type", "application/x-www-form-urlencoded", "authorization", field.BasicOf("shop", password), "content-length", fmt.Sprint(len(body)))})
	object, err := jsonobj.Read(r.Body)
	if err != nil || r.Status != 200 {
		s.t.Fatalf("the shop is answered %+v", r)
	}
	return object
}

// mustLetIn fails unless the guard decides so about a request with the token that needs that scope.
func (s *estate) mustLetIn(status int, token, need string) {
	s.t.Helper()
	q := api.Request{Method: "GET", Target: "/thing", Minor: 1, Fields: pairs("host", "shop", "authorization", "Bearer "+token)}
	if got := s.guard.Check(s.now, q, []string{need}, s.introspected); got.Status != status {
		s.t.Fatalf("W18: at %d the guard decides %+v about %s, want %d", s.now, got, need, status)
	}
}

// callers are the clients that are registered, with their secrets.
var callers = [][2]string{{"app", ""}, {"web", password}}

// TestTheGoodWay: for every part of the wishes that the user allows.
func TestTheGoodWay(t *testing.T) {
	wishes := []string{"offline_access", "read", "write"}
	for _, caller := range callers {
		for part := 1; part < 1<<len(wishes); part++ {
			var allowed, without []string
			for i, scope := range wishes {
				if part>>i&1 == 1 {
					allowed = append(allowed, scope)
				} else {
					without = append(without, scope)
				}
			}
			s := newEstate(t, 8, caller[0], caller[1], "write", "read offline_access")
			s.toToken(without...)
			token := s.mustKeep(caller[0], allowed)
			letsIn := func(token string) {
				for _, scope := range wishes {
					s.mustLetIn(map[bool]int{true: 200, false: 403}[slices.Contains(allowed, scope)], token, scope)
				}
			}
			letsIn(token)
			s.tick(10)
			if q, err := s.client.Renew(); slices.Contains(allowed, "offline_access") {
				s.must(s.ask(q, err), nil)
				fresh := s.mustKeep(caller[0], allowed)
				if fresh == token {
					t.Fatal("W18: the next token is the old one")
				}
				letsIn(fresh)
				s.must(s.ask(s.client.Renew()), nil)
				token = s.mustKeep(caller[0], allowed)
				letsIn(token)
			} else {
				s.must(err, api.ErrLost)
			}
			s.must(s.ask(s.client.Drop()), nil)
			if _, ok := s.client.Token(s.now); ok || len(s.client.Scopes()) > 0 || s.client.Failed() != "" {
				t.Fatal("P24.6: behind a Drop there is a token")
			}
			for _, scope := range wishes {
				s.mustLetIn(401, token, scope)
			}
		}
	}
}

// TestOneEndForAll: the client's token is over when the server says so.
func TestOneEndForAll(t *testing.T) {
	s := newEstate(t, 3, "app", "", "read")
	s.toToken()
	token := s.mustKeep("app", []string{"read"})
	s.tick(3599)
	s.mustKeep("app", []string{"read"})
	s.mustLetIn(200, token, "read")
	s.tick(1)
	if _, ok := s.client.Token(s.now); ok {
		t.Error("W18: the client's token outlasts the server's")
	}
	s.mustLetIn(401, token, "read")
	s.must(s.ask(s.client.Drop()), nil)
}

// TestMoreBeginnings: the session lives, so the user is asked only for what they have not allowed yet, and then not at all.
func TestMoreBeginnings(t *testing.T) {
	for _, caller := range callers {
		s := newEstate(t, 7, caller[0], caller[1], "read", "write")
		s.toToken("write")
		tokens := []string{s.mustKeep(caller[0], []string{"read"})}
		for round := range 2 {
			stale := s.browser.Where()
			s.must(s.client.Return(stale), api.ErrLost)
			target := s.begin(3 + 2*round)
			s.must(s.client.Return(stale), api.ErrDenied)
			s.must(s.client.Return(s.decide(target, 0)), nil)
			s.must(s.client.Return(s.browser.Where()), api.ErrLost)
			s.must(s.ask(s.client.Redeem()), nil)
			tokens = append(tokens, s.mustKeep(caller[0], []string{"read", "write"}))
		}
		if slices.Sort(tokens); len(slices.Compact(tokens)) != 3 {
			t.Errorf("W18: the tokens are %q", tokens)
		}
	}
}

// TestTheUserDenies: by the second form, or with no box that is ticked; then they think better of it.
func TestTheUserDenies(t *testing.T) {
	for _, caller := range callers {
		s := newEstate(t, 6, caller[0], caller[1], "read", "write")
		for i, form := range []int{1, 0} {
			s.must(s.client.Return(s.decide(s.begin(10*i), form, "read", "write")), nil)
			if got := s.client.Failed(); got != api.AccessDenied {
				t.Errorf("W18: Failed() = %q", got)
			}
			_, err := s.client.Redeem()
			s.must(err, api.ErrLost)
		}
		s.toToken()
		s.mustKeep(caller[0], []string{"read", "write"})
	}
}

// TestWishesThatAreNotRegistered: the server sends an error back, which the client takes.
func TestWishesThatAreNotRegistered(t *testing.T) {
	s := newEstate(t, 3, "app", "", "read", "admin")
	s.must(s.client.Return(s.decide(s.begin(1), 0)), nil)
	if got := s.client.Failed(); got != api.InvalidScope {
		t.Errorf("W18: Failed() = %q", got)
	}
}

// codeIn is the code that is sent back in an address without a query of its own.
func codeIn(uri string) string {
	_, code, _ := strings.Cut(uri, "?code=")
	code, _, _ = strings.Cut(code, "&")
	return code
}

// TestAnothersCode: the address with which another client's browser came back is not taken, nor is a code taken that was put into one's own.
func TestAnothersCode(t *testing.T) {
	s := newEstate(t, 6, "app", "", "read")
	mine := s.begin(1)
	other, err := client.New("app", "", "https://a.example/cb", []string{"read"})
	s.must(err, nil)
	theirs, err := other.Begin(draw(3), draw(4))
	s.must(err, nil)
	where := s.decide(theirs, 0)
	s.must(s.client.Return(where), api.ErrDenied)
	own := s.decide(mine, 0)
	s.must(s.client.Return(strings.Replace(own, codeIn(own), codeIn(where), 1)), nil)
	s.must(s.ask(s.client.Redeem()), api.ErrDenied)
	if got := s.client.Failed(); got != api.InvalidGrant {
		t.Errorf("W18: with a code of another beginning Failed() = %q", got)
	}
	if _, ok := s.client.Token(s.now); ok {
		t.Error("W18: with a code of another beginning there is a token")
	}
	s.must(other.Return(where), nil)
	q, err := other.Redeem()
	s.must(err, nil)
	s.must(other.Take(s.now, s.answerTo(ofClient, q)), nil)
}

// TestARefreshTokenThatIsUsed: where an answer is lost and the request is made again, the server ends the family, and the client knows that it must begin anew.
func TestARefreshTokenThatIsUsed(t *testing.T) {
	s := newEstate(t, 6, "web", password, "offline_access", "read")
	s.toToken()
	token := s.mustKeep("web", []string{"offline_access", "read"})
	q, err := s.client.Renew()
	s.must(err, nil)
	s.answerTo(ofClient, q)
	s.mustLetIn(200, token, "read")
	s.must(s.ask(s.client.Renew()), api.ErrDenied)
	if got := s.client.Failed(); got != api.InvalidGrant {
		t.Errorf("W18: Failed() = %q", got)
	}
	_, err = s.client.Renew()
	s.must(err, api.ErrLost)
	s.mustLetIn(401, token, "read")
	s.must(s.ask(s.client.Drop()), nil)
}

// TestRefusedByTheServer: each refusal has a name.
func TestRefusedByTheServer(t *testing.T) {
	s := newEstate(t, 6, "web", "wrong", "read")
	s.must(s.client.Return(s.decide(s.begin(1), 0)), nil)
	s.must(s.ask(s.client.Redeem()), api.ErrDenied)
	if got := s.client.Failed(); got != api.InvalidClient {
		t.Errorf("W18: with a wrong secret Failed() = %q", got)
	}
	s = newEstate(t, 2, "web", password, "read")
	s.must(s.client.Return(s.decide(s.begin(1), 0)), nil)
	s.must(s.ask(s.client.Redeem()), api.ErrDenied)
	if got := s.client.Failed(); got != api.ServerError {
		t.Errorf("W18: without a draw Failed() = %q", got)
	}
	s = newEstate(t, 6, "web", password, "read")
	s.must(s.client.Return(s.decide(s.begin(1), 0)), nil)
	s.tick(60)
	s.must(s.ask(s.client.Redeem()), api.ErrDenied)
	if got := s.client.Failed(); got != api.InvalidGrant {
		t.Errorf("W18: with a code that is over Failed() = %q", got)
	}
}
