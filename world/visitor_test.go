package world_test

import (
	"html"
	"regexp"
	"slices"
	"strings"
	"testing"

	"usher/api"
)

// A visitor is whoever sends one step behind the other and waits for the answer to each: the whole script is played anew each time.
type visitor struct {
	t      *testing.T
	text   string
	script []api.Step
	trace  api.Trace
	drawn  int
	fresh  bool // each request on a connection of its own
}

func newVisitor(t *testing.T, c api.Config) *visitor {
	t.Helper()
	v := &visitor{t: t, text: textOf(c)}
	v.trace = mustRun(t, v.text)
	return v
}

// fork is the same visitor, who may go another way.
func (v *visitor) fork() *visitor {
	w := *v
	w.script = slices.Clone(v.script)
	return &w
}

func (v *visitor) do(steps ...api.Step) {
	v.t.Helper()
	v.script = append(slices.Clone(v.script), steps...)
	v.trace = mustRun(v.t, v.text, v.script...)
}

// draw lets so many draws wait that were never drawn before.
func (v *visitor) draw(count int) {
	for range count {
		v.script = append(v.script, api.Step{Kind: api.StepDraw, Data: counted(v.drawn)})
		v.drawn++
	}
}

// send is the answer to a request.
func (v *visitor) send(raw string) seen {
	v.t.Helper()
	before := len(v.trace.Outs)
	steps := []api.Step{bytesOn(1, raw)}
	if v.fresh {
		steps = append(steps, hangUp(1))
	}
	v.do(steps...)
	if len(v.trace.Outs) != before+1 {
		v.t.Fatalf("W19: %q has %d answers", raw, len(v.trace.Outs)-before)
	}
	return read(v.t, v.trace.Outs[before].Text)
}

// want is the answer to a request, which must have that status.
func (v *visitor) want(status int, raw string) seen {
	v.t.Helper()
	r := v.send(raw)
	if r.status != status {
		v.t.Fatalf("%q is answered %d %q, want %d", raw, r.status, r.body, status)
	}
	return r
}

// enter logs a user in.
func (v *visitor) enter(user string) string {
	v.t.Helper()
	v.draw(1)
	sid, _ := v.want(303, login(user, passwords[user])).sid()
	if sid == "" {
		v.t.Fatalf("W10: %s has no session", user)
	}
	return sid
}

// allow asks and allows these scopes, and answers the code.
func (v *visitor) allow(sid string, question []api.Pair, scopes ...string) string {
	v.t.Helper()
	v.draw(1)
	code := v.want(303, deciding(sid, question, "allow", scopes...)).code()
	if code == "" {
		v.t.Fatal("W10: no code is given out")
	}
	return code
}

// redeem turns a code of app into a token and, if that is allowed, a refresh token.
func (v *visitor) redeem(code string) (token, refresh string) {
	v.t.Helper()
	v.draw(2)
	r := v.want(200, redeeming(code))
	return r.member("access_token"), r.member("refresh_token")
}

// counts: does a token count, as the client web is told?
func (v *visitor) counts(token string) bool {
	v.t.Helper()
	return v.want(200, introspecting(token)).isActive()
}

// mustCount fails unless these tokens count, or do not.
func (v *visitor) mustCount(promise string, counts bool, tokens ...string) {
	v.t.Helper()
	for _, token := range tokens {
		if v.counts(token) != counts {
			v.t.Fatalf("%s: the token %s counts: %v, want %v", promise, token, !counts, counts)
		}
	}
}

// mustKeep fails if a request changes what is kept.
func (v *visitor) mustKeep(promise string, status int, raw string) seen {
	v.t.Helper()
	before := v.trace
	r := v.want(status, raw)
	if v.trace.Disk != before.Disk || !isSameState(v.trace.State, before.State) {
		v.t.Fatalf("%s: %q has changed what is kept", promise, raw)
	}
	return r
}

// family is a user who has allowed app to read offline, and what has come of it.
func family(t *testing.T, c api.Config) (v *visitor, sid, code, token, refresh string) {
	t.Helper()
	v = newVisitor(t, c)
	sid = v.enter("ann")
	code = v.allow(sid, question("offline_access read"), "offline_access", "read")
	token, refresh = v.redeem(code)
	return v, sid, code, token, refresh
}

// The good way, by the forms alone.

var inputValue = regexp.MustCompile(`<input type="(hidden|checkbox)" name="([^"]*)" value="([^"]*)"`)

// sent is what a browser sends for the form of that number: what is hidden in it, the boxes that are left ticked, and what is typed.
func sent(body string, number int, unticked []string, typed ...string) (action string, params []api.Pair) {
	form := strings.Split(body, "<form ")[1+number]
	action = regexp.MustCompile(`action="([^"]*)"`).FindStringSubmatch(form)[1]
	for _, i := range inputValue.FindAllStringSubmatch(form, -1) {
		name, value := html.UnescapeString(i[2]), html.UnescapeString(i[3])
		if i[1] == "checkbox" && slices.Contains(unticked, strings.TrimPrefix(name, "grant:")) {
			continue
		}
		params = and(params, name, value)
	}
	return html.UnescapeString(action), and(params, typed...)
}

// A way is what a client asks and a user leaves of it.
type way struct {
	user     string
	question []api.Pair
	away     []string // whose boxes the user takes away
	client   []string // by which the client shows who it is: fields
	named    []string // or parameters
}

func (w way) of(name string) string {
	value, _ := countOf(w.question, name)
	return value
}

// goTo comes to the code, by redirects and forms alone.
func (w way) goTo(v *visitor, isInside bool) (sid, code string) {
	v.t.Helper()
	target := "/authorize?" + formText(w.question)
	if isInside {
		sid = v.enter(w.user)
	} else {
		door := v.want(303, getting(target)).location()
		action, params := sent(v.want(200, getting(door)).body, 0, nil, "user", w.user, "pass", passwords[w.user])
		v.draw(1)
		r := v.want(303, posting(action, params))
		sid, _ = r.sid()
		if target = r.location(); !strings.HasPrefix(target, "/authorize?") {
			v.t.Fatalf("W10: behind the login the browser is sent to %q", target)
		}
	}
	v.do(tick(3))
	page := v.want(200, getting(target, cookie(sid)))
	action, params := sent(page.body, 0, w.away)
	v.draw(1)
	return sid, v.want(303, posting(action, params, cookie(sid))).code()
}

// redeem turns the way's code into a token.
func (w way) redeem(v *visitor, code string) seen {
	v.t.Helper()
	v.draw(2)
	params := and(pairs("grant_type", "authorization_code", "code", code, "redirect_uri", w.of("redirect_uri"), "code_verifier", verifier), w.named...)
	return v.want(200, posting("/token", params, w.client...))
}
