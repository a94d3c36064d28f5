package agent_test

import (
	"encoding/base64"
	"strings"
	"testing"

	"usher/agent"
	"usher/api"
	"usher/intake"
	"usher/reply"
	"usher/world"
)

// siteConfig is the configuration of DOC.md, 'A whole run'.
const siteConfig = `code-life 60
token-life 3600
session-life 86400
refresh-life 100000
disk 100000
head 8192
body 4096
rounds 1
client app public
redirect https://a.example/cb
scopes read write
client web secret 73616c74 120fb6cffcf8b32c43e7225256c4f837a86548c92ccc35480805987cb70be17b
redirect https://w.example/cb
scopes read
user ann 73616c74 120fb6cffcf8b32c43e7225256c4f837a86548c92ccc35480805987cb70be17b
`

const question = "/authorize?client_id=app&redirect_uri=https%3A%2F%2Fa.example%2Fcb&response_type=code&scope=read+write&state=xyz&code_challenge=E9Melhoa2OwvFrEMTJguCHaoeK1t8URWbuGJSstw-cM&code_challenge_method=S256"

// A site is the whole server over raw bytes, with a browser in front of it.
type site struct {
	t      *testing.T
	agent  *agent.Agent
	script []api.Step
	now    int
	sent   []string // the targets of the requests so far
}

func newSite(t *testing.T) *site {
	s := &site{t: t, agent: agent.New()}
	for b := range 4 {
		s.script = append(s.script, api.Step{Kind: api.StepDraw, Data: strings.Repeat(string([]byte{byte(b)}), 32)})
	}
	return s
}

// idOf is the identifier of the draw of that number.
func idOf(b byte) string {
	return base64.RawURLEncoding.EncodeToString([]byte(strings.Repeat(string([]byte{b}), 32)))
}

func (s *site) tick(n int) {
	s.now += n
	s.script = append(s.script, api.Step{Kind: api.StepTick, N: n})
}

// answerTo is what goes out for a request: the script is played once more, with it behind all else.
func (s *site) answerTo(q api.Request) api.Reply {
	s.t.Helper()
	text, err := intake.Write(q)
	if err != nil {
		s.t.Fatalf("P23.7: Write(%+v): %v", q, err)
	}
	s.sent = append(s.sent, q.Target)
	s.script = append(s.script, api.Step{Kind: api.StepBytes, Data: text})
	trace, err := world.Run(siteConfig, s.script)
	if err != nil || len(trace.Outs) != len(s.sent) {
		s.t.Fatalf("%d requests, %d answers, %v", len(s.sent), len(trace.Outs), err)
	}
	r, _, err := reply.Read(trace.Outs[len(trace.Outs)-1].Text)
	if err != nil {
		s.t.Fatal(err)
	}
	return r
}

// browse sends a request, and those to which its answers lead; it answers how that ends.
func (s *site) browse(q api.Request, err error) int {
	s.t.Helper()
	kind := 1
	for kind == 1 && err == nil {
		q, kind, err = s.agent.Take(s.now, s.answerTo(q))
	}
	if err != nil {
		s.t.Fatalf("P23.4: %v", err)
	}
	return kind
}

// mustRead fails unless the browser has come to a page of that title.
func (s *site) mustRead(kind int, title string) {
	s.t.Helper()
	p, there := s.agent.Page()
	if kind != 0 || !there || p.Title != title || s.agent.Where() != "" {
		s.t.Fatalf("W18: the browser is at %+v, %v, with %d, Where %q; want the page %q", p, there, kind, s.agent.Where(), title)
	}
}

func (s *site) visit(target string) int {
	s.t.Helper()
	return s.browse(s.agent.Visit(s.now, target))
}

func (s *site) submit(form int, typed ...string) int {
	s.t.Helper()
	return s.browse(s.agent.Submit(s.now, form, pairs(typed...)))
}

func (s *site) mustHaveSession(id string) {
	s.t.Helper()
	var want []api.Pair
	if id != "" {
		want = pairs("sid", id)
	}
	if got := s.agent.Jar(s.now); len(got) != len(want) || len(got) > 0 && got[0] != want[0] {
		s.t.Fatalf("P23.6: at %d Jar = %q, want %q", s.now, got, want)
	}
}

// TestWayThroughTheServer is the browser's part of DOC.md's whole run: from a question to the code for what the user allows.
func TestWayThroughTheServer(t *testing.T) {
	s := newSite(t)
	s.mustRead(s.visit(question), "Log in")
	s.mustRead(s.submit(0, "user", "ann", "pass", "wrong"), "Log in")
	if p, _ := s.agent.Page(); len(p.Lines) != 1 || p.Lines[0] != "Wrong name or password." {
		t.Fatalf("W18: behind a wrong password the page is %+v", p)
	}
	s.mustHaveSession("")
	s.mustRead(s.submit(0, "user", "ann", "pass", "password"), "Allow access")
	s.mustHaveSession(idOf(0))
	if last := s.sent[len(s.sent)-1]; last != question {
		t.Fatalf("W18: the login leads to %q", last)
	}
	s.tick(5)
	if kind := s.submit(0, "grant:write", "yes"); kind != 2 {
		t.Fatalf("W18: the consent ends with %d", kind)
	}
	if want := "https://a.example/cb?code=" + idOf(1) + "&state=xyz"; s.agent.Where() != want {
		t.Fatalf("W18: Where() = %q, want %q", s.agent.Where(), want)
	}
	s.mustRead(s.visit("/"), "Usher")
	if p, _ := s.agent.Page(); len(p.Lines) != 2 || p.Lines[1] != "app may use: read." || len(p.Forms) != 2 {
		t.Fatalf("W18: home is %+v", p)
	}
	s.mustRead(s.submit(0), "Usher")
	s.mustRead(s.submit(0), "Usher")
	s.mustHaveSession("")
	if p, _ := s.agent.Page(); p.Lines[0] != "You are not logged in." {
		t.Fatalf("W18: behind the logout home is %+v", p)
	}
}

// TestDeniedAtTheServer: the second form sends the browser back with an error, and so does one without a box that is ticked.
func TestDeniedAtTheServer(t *testing.T) {
	s := newSite(t)
	s.visit("/login?next=" + strings.NewReplacer("%", "%25", "&", "%26", "?", "%3F", "+", "%2B").Replace(question))
	s.mustRead(s.submit(0, "user", "ann", "pass", "password"), "Allow access")
	denied := func(kind int) {
		t.Helper()
		if kind != 2 || s.agent.Where() != "https://a.example/cb?error=access_denied&state=xyz" {
			t.Fatalf("W18: the consent ends with %d, Where %q", kind, s.agent.Where())
		}
	}
	denied(s.submit(1))
	s.mustRead(s.visit(question), "Allow access")
	denied(s.submit(0, "grant:read", "yes", "grant:write", "yes"))
}

// TestSessionsEndAtTheServer: the cookie lasts as long as the session does.
func TestSessionsEndAtTheServer(t *testing.T) {
	s := newSite(t)
	s.mustRead(s.visit("/"), "Usher")
	s.mustRead(s.submit(0, "user", "ann", "pass", "password"), "Usher")
	s.tick(86399)
	s.mustHaveSession(idOf(0))
	s.mustRead(s.visit(question), "Allow access")
	s.tick(1)
	s.mustHaveSession("")
	s.mustRead(s.submit(0), "Log in")
	s.mustRead(s.visit(question), "Log in")
	s.mustRead(s.submit(0, "user", "ann", "pass", "password"), "Allow access")
	s.mustHaveSession(idOf(1))
	s.mustRead(s.visit("/nothing"), "Error")
}
