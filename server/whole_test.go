package server_test

import (
	"bytes"
	"strconv"
	"strings"
	"testing"

	"usher/api"
	"usher/disk"
	"usher/intake"
	"usher/pkce"
	"usher/registry"
	"usher/reply"
	"usher/server"
	"usher/store"
)

// wholeConfig is the configuration of DOC.md, 'A whole run'.
const wholeConfig = `code-life 60
token-life 3600
session-life 86400
refresh-life 100000
disk 100000
head 8192
body 4096
rounds 1
client app public
redirect https://a.example/cb
scopes read write
client web secret 73616c74 120fb6cffcf8b32c43e7225256c4f837a86548c92ccc35480805987cb70be17b
redirect https://w.example/cb
scopes read
user ann 73616c74 120fb6cffcf8b32c43e7225256c4f837a86548c92ccc35480805987cb70be17b
`

// The requests of DOC.md's run: their bodies and the first one's target.
const (
	wholeAsk    = "/authorize?client_id=app&redirect_uri=https%3A%2F%2Fa.example%2Fcb&response_type=code&scope=read+write&state=xyz&code_challenge=E9Melhoa2OwvFrEMTJguCHaoeK1t8URWbuGJSstw-cM&code_challenge_method=S256"
	wholeLogin  = "user=ann&pass=password&next=%2F"
	wholeForm   = "client_id=app&redirect_uri=https%3A%2F%2Fa.example%2Fcb&response_type=code&scope=read+write&state=xyz&code_challenge=E9Melhoa2OwvFrEMTJguCHaoeK1t8URWbuGJSstw-cM&code_challenge_method=S256&ticket=c0Wp67GfmY2Wm-4SIyXcr6dbnf6pQr9Q6GLdG8HotwY&decision=allow&grant%3Aread=yes"
	wholeRedeem = "grant_type=authorization_code&code=AQEBAQEBAQEBAQEBAQEBAQEBAQEBAQEBAQEBAQEBAQE&redirect_uri=https%3A%2F%2Fa.example%2Fcb&code_verifier=dBjftJeZ4CVP-mB92K27uhbUJU1p1r_wW1gFWFOEjXk&client_id=app"
	wholeCookie = "Cookie: sid=AAAAAAAAAAAAAAAAAAAAAAAAAAAAAAAAAAAAAAAAAAA\r\n"
	wholeAbout  = "token=AgICAgICAgICAgICAgICAgICAgICAgICAgICAgICAgI"
	wholeBasic  = "Authorization: Basic d2ViOnBhc3N3b3Jk\r\n"
)

// wholeFirstForm is how the consent page begins, up to the end of its first form.
const wholeFirstForm = `<form method="post" action="/consent">
<input type="hidden" name="client_id" value="app">
<input type="hidden" name="redirect_uri" value="https://a.example/cb">
<input type="hidden" name="response_type" value="code">
<input type="hidden" name="scope" value="read write">
<input type="hidden" name="state" value="xyz">
<input type="hidden" name="code_challenge" value="E9Melhoa2OwvFrEMTJguCHaoeK1t8URWbuGJSstw-cM">
<input type="hidden" name="code_challenge_method" value="S256">
<input type="hidden" name="ticket" value="c0Wp67GfmY2Wm-4SIyXcr6dbnf6pQr9Q6GLdG8HotwY">
<input type="hidden" name="decision" value="allow">
<p><label><input type="checkbox" name="grant:read" value="yes" checked> read</label></p>
<p><label><input type="checkbox" name="grant:write" value="yes" checked> write</label></p>
<p><button type="submit">Allow</button></p>
</form>
`

// A line is one connection to a server over a machine of its own.
type line struct {
	t      *testing.T
	config api.Config
	machine
	server *server.Server
	intake *intake.Intake
}

func newLine(t *testing.T) *line {
	t.Helper()
	c, at, err := registry.Read(wholeConfig)
	if err != nil {
		t.Fatalf("line %d: %v", at, err)
	}
	l := &line{t: t, config: c, machine: machine{disk: disk.New(c.DiskBytes), source: pkce.NewSource()}}
	for n := range byte(3) {
		if err := l.source.Push(draw(n)); err != nil {
			t.Fatal(err)
		}
	}
	l.connect()
	return l
}

func (l *line) connect() {
	l.t.Helper()
	l.disk.Revive()
	var err error
	if l.store, err = store.Open(l.disk); err != nil {
		l.t.Fatal(err)
	}
	l.server = server.New(l.config, l.store, l.source)
	if l.intake, err = intake.New(l.config.HeadMax, l.config.BodyMax); err != nil {
		l.t.Fatal(err)
	}
}

// send is the bytes that go out for the bytes of one request; empty, if the power fails amid it.
func (l *line) send(now int, raw string) string {
	l.t.Helper()
	l.intake.Feed(raw)
	q, n := l.intake.Next()
	if n != 1 {
		l.t.Fatalf("a test's request is none: %d", n)
	}
	r, err := l.server.Serve(now, q)
	if err == api.ErrDead {
		return ""
	}
	text, renderErr := reply.Render(r, q.Method == "HEAD")
	if err != nil || renderErr != nil {
		l.t.Fatalf("layer 19: %q answers %+v, %v, %v", raw, r, err, renderErr)
	}
	return text
}

// post is the bytes of a POST.
func post(path, fields, body string) string {
	return "POST " + path + " HTTP/1.1\r\nHost: usher.example\r\nContent-Type: application/x-www-form-urlencoded\r\nContent-Length: " + strconv.Itoa(len(body)) + "\r\n" + fields + "\r\n" + body
}

// answer is the bytes of an answer: lines end with CR LF, up to the empty one.
func answer(head, body string) string {
	return strings.ReplaceAll(head, "\n", "\r\n") + body
}

func (l *line) must(want string, now int, raw string) {
	l.t.Helper()
	if got := l.send(now, raw); got != want {
		l.t.Errorf("DOC.md, a whole run: at %d %q answers\n%s\nwant\n%s", now, raw, got, want)
	}
}

// object200 is a 200 with that object.
func object200(body string) string {
	return answer("HTTP/1.1 200 OK\nContent-Type: application/json\nCache-Control: no-store\nPragma: no-cache\nContent-Length: "+strconv.Itoa(len(body))+"\nConnection: keep-alive\n\n", body)
}

const (
	wholeToken   = `{"access_token":"AgICAgICAgICAgICAgICAgICAgICAgICAgICAgICAgI","token_type":"Bearer","expires_in":3600,"scope":"read"}`
	wholeActive  = `{"active":true,"scope":"read","client_id":"app","username":"ann","token_type":"Bearer","exp":3615,"iat":15}`
	wholeInvalid = "HTTP/1.1 400 Bad Request\nContent-Type: application/json\nCache-Control: no-store\nPragma: no-cache\nContent-Length: 25\nConnection: keep-alive\n\n"
)

// comeToCode is the run up to its fourth request.
func (l *line) comeToCode() {
	l.t.Helper()
	get := "GET " + wholeAsk + " HTTP/1.1\r\nHost: usher.example\r\n"
	l.must(answer("HTTP/1.1 303 See Other\nLocation: /login?next=%2Fauthorize%3Fclient_id%3Dapp%26redirect_uri%3Dhttps%253A%252F%252Fa.example%252Fcb%26response_type%3Dcode%26scope%3Dread%2Bwrite%26state%3Dxyz%26code_challenge%3DE9Melhoa2OwvFrEMTJguCHaoeK1t8URWbuGJSstw-cM%26code_challenge_method%3DS256\nCache-Control: no-store\nContent-Length: 0\nConnection: keep-alive\n\n", ""), 0, get+"\r\n")
	l.must(answer("HTTP/1.1 303 See Other\nLocation: /\nCache-Control: no-store\nSet-Cookie: sid=AAAAAAAAAAAAAAAAAAAAAAAAAAAAAAAAAAAAAAAAAAA; Path=/; Max-Age=86400; Secure; HttpOnly; SameSite=Lax\nContent-Length: 0\nConnection: keep-alive\n\n", ""), 0, post("/login", "", wholeLogin))
	head, body, _ := strings.Cut(l.send(5, get+wholeCookie+"\r\n"), "\r\n\r\n")
	if head+"\r\n\r\n" != answer("HTTP/1.1 200 OK\nContent-Type: text/html; charset=utf-8\nCache-Control: no-store\nX-Frame-Options: DENY\nReferrer-Policy: no-referrer\nContent-Length: 1736\nConnection: keep-alive\n\n", "") {
		l.t.Errorf("DOC.md, a whole run, 3: %s", head)
	}
	if at := strings.Index(body, "<form"); at < 0 || !strings.HasPrefix(body[at:], wholeFirstForm) || len(body) != 1736 {
		l.t.Errorf("DOC.md, a whole run, 3: %s", body)
	}
	l.must(answer("HTTP/1.1 303 See Other\nLocation: https://a.example/cb?code=AQEBAQEBAQEBAQEBAQEBAQEBAQEBAQEBAQEBAQEBAQE&state=xyz\nCache-Control: no-store\nContent-Length: 0\nConnection: keep-alive\n\n", ""), 5, post("/consent", wholeCookie, wholeForm))
}

// TestAWholeRun: DOC.md's, examples 1 to 8, over raw bytes.
func TestAWholeRun(t *testing.T) {
	l := newLine(t)
	l.comeToCode()
	l.must(object200(wholeToken), 15, post("/token", "", wholeRedeem))
	l.must(object200(wholeActive), 15, post("/introspect", wholeBasic, wholeAbout))
	l.must(answer("HTTP/1.1 200 OK\nCache-Control: no-store\nPragma: no-cache\nContent-Length: 0\nConnection: keep-alive\n\n", ""), 15, post("/revoke", "", wholeAbout+"&client_id=app"))
	l.must(object200(`{"active":false}`), 15, post("/introspect", wholeBasic, wholeAbout))
	data := look(l.disk)
	if !bytes.HasPrefix(data, []byte("\x00\x00\x00\x34\x6c\x4f\x0c\x1c\x01\x32\x01\x2b\x41\x41")) || len(data) != 4*8+52+144+152+47 {
		t.Errorf("DOC.md, a whole run, 8: %q", data)
	}
}

// TestAWholeRunThatDies: DOC.md's, example 9: amid the request for a token, with nothing of the tail kept and with all of it.
func TestAWholeRunThatDies(t *testing.T) {
	for _, keep := range []int{0, plenty} {
		l := newLine(t)
		l.comeToCode()
		l.disk.Arm(1, keep)
		l.must("", 15, post("/token", "", wholeRedeem))
		l.connect()
		if err := l.source.Push(draw(3)); err != nil {
			t.Fatal(err)
		}
		if keep == 0 {
			l.must(object200(strings.ReplaceAll(wholeToken, id(2), id(3))), 15, post("/token", "", wholeRedeem))
			continue
		}
		l.must(object200(wholeActive), 15, post("/introspect", wholeBasic, wholeAbout))
		l.must(answer(wholeInvalid, `{"error":"invalid_grant"}`), 15, post("/token", "", wholeRedeem))
		l.must(object200(`{"active":false}`), 15, post("/introspect", wholeBasic, wholeAbout))
	}
}

// TestACodeShownAgain: DOC.md's, example 10.
func TestACodeShownAgain(t *testing.T) {
	l := newLine(t)
	l.comeToCode()
	l.must(object200(wholeToken), 15, post("/token", "", wholeRedeem))
	l.must(answer(wholeInvalid, `{"error":"invalid_grant"}`), 15, post("/token", "", wholeRedeem))
	l.must(object200(`{"active":false}`), 15, post("/introspect", wholeBasic, wholeAbout))
}
