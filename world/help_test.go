package world_test

import (
	"bufio"
	"crypto/hmac"
	"crypto/pbkdf2"
	"crypto/sha256"
	"encoding/base64"
	"encoding/binary"
	"encoding/hex"
	"encoding/json"
	"fmt"
	"io"
	"math/rand"
	"net/http"
	"net/url"
	"reflect"
	"slices"
	"strconv"
	"strings"
	"testing"

	"usher/api"
	"usher/world"
)

const (
	formType   = "application/x-www-form-urlencoded"
	address    = "https://a.example/cb"
	webAddress = "https://w.example/cb?x=1"
	oddAddress = "https://o.example/cb?a='&b=(1)"
	oddName    = `<o&"'>` // of a client and of a user
	webPass    = "s3 cret:%+"
)

// passwords are those of the users.
var passwords = map[string]string{"ann": "password", "bob": "wp", oddName: `"'<&>%+ `}

var (
	verifier  = strings.Repeat("v", 43)
	challenge = challengeOf(verifier)
)

// The library's own sums and codes.

func decimal(n int) string { return strconv.Itoa(n) }

func secretOf(pass, salt string) api.Secret {
	digest, err := pbkdf2.Key(sha256.New, pass, []byte(salt), 1, 32)
	if err != nil {
		panic("a test seals what cannot be sealed")
	}
	return api.Secret{Salt: salt, Digest: string(digest)}
}

func isPassword(pass string, k api.Secret, rounds int) bool {
	digest, err := pbkdf2.Key(sha256.New, pass, []byte(k.Salt), rounds, 32)
	return err == nil && string(digest) == k.Digest
}

func challengeOf(verifier string) string {
	sum := sha256.Sum256([]byte(verifier))
	return base64.RawURLEncoding.EncodeToString(sum[:])
}

func ticketOf(sid string, question []api.Pair) string {
	sum := hmac.New(sha256.New, []byte(sid))
	sum.Write([]byte(formText(question)))
	return base64.RawURLEncoding.EncodeToString(sum.Sum(nil))
}

func idOf(draw string) string { return base64.RawURLEncoding.EncodeToString([]byte(draw)) }

// id is the identifier of 32 times that byte.
func id(b byte) string { return idOf(drawOf(b)) }

func drawOf(b byte) string { return strings.Repeat(string([]byte{b}), 32) }

// counted is the draw of that number: no two of them are the same, and none is 32 times one byte.
func counted(n int) string {
	return strings.Repeat("c", 24) + string(binary.BigEndian.AppendUint64(nil, uint64(n)))
}

func basicField(name, pass string) string {
	return "Authorization: Basic " + base64.StdEncoding.EncodeToString([]byte(url.QueryEscape(name)+":"+url.QueryEscape(pass)))
}

// asWeb is the field by which the client web shows who it is.
func asWeb() string { return basicField("web", webPass) }

// Configurations.

// config has a public client, two with a secret, and one whose name and address are made of what a page, a form or an object must write in another way; so the users.
func config() api.Config {
	return api.Config{
		CodeLife: 60, TokenLife: 3600, SessionLife: 86400, RefreshLife: 100000, DiskBytes: 100000, HeadMax: 8192, BodyMax: 4096, Rounds: 1,
		Clients: []api.Client{
			{ID: "app", Public: true, Redirects: []string{address, "com.example.app:/cb?k?"}, Scopes: []string{"offline_access", "read", "write"}},
			{ID: "web", Secret: secretOf(webPass, "web"), Redirects: []string{webAddress}, Scopes: []string{"offline_access", "read"}},
			{ID: oddName, Public: true, Redirects: []string{oddAddress}, Scopes: []string{"'&'", "<b>"}},
			{ID: "other", Secret: secretOf("other", "o"), Redirects: []string{address}, Scopes: []string{"read", "write"}},
		},
		Users: []api.User{{Name: "ann", Secret: secretOf("password", "salt")}, {Name: "bob", Secret: secretOf("wp", "b")}, {Name: oddName, Secret: secretOf(passwords[oddName], "x")}},
	}
}

// braked is config with a brake.
func braked(fails, lockTime int) api.Config {
	c := config()
	c.Fails, c.LockTime = fails, lockTime
	return c
}

// textOf is the text of a configuration.
func textOf(c api.Config) string {
	var b strings.Builder
	fmt.Fprintf(&b, "code-life %d\ntoken-life %d\nsession-life %d\nrefresh-life %d\n", c.CodeLife, c.TokenLife, c.SessionLife, c.RefreshLife)
	fmt.Fprintf(&b, "disk %d\nhead %d\nbody %d\nrounds %d\nfails %d\nlock %d\n", c.DiskBytes, c.HeadMax, c.BodyMax, c.Rounds, c.Fails, c.LockTime)
	secret := func(k api.Secret) string {
		return hex.EncodeToString([]byte(k.Salt)) + " " + hex.EncodeToString([]byte(k.Digest))
	}
	for _, v := range c.Clients {
		if v.Public {
			fmt.Fprintf(&b, "client %s public\n", v.ID)
		} else {
			fmt.Fprintf(&b, "client %s secret %s\n", v.ID, secret(v.Secret))
		}
		for _, r := range v.Redirects {
			fmt.Fprintf(&b, "redirect %s\n", r)
		}
		fmt.Fprintf(&b, "scopes %s\n", strings.Join(v.Scopes, " "))
	}
	for _, u := range c.Users {
		fmt.Fprintf(&b, "user %s %s\n", u.Name, secret(u.Secret))
	}
	return b.String()
}

// Steps.

func bytesOn(conn int, data string) api.Step {
	return api.Step{Kind: api.StepBytes, Conn: conn, Data: data}
}

func tick(n int) api.Step { return api.Step{Kind: api.StepTick, N: n} }

func draw(b byte) api.Step { return api.Step{Kind: api.StepDraw, Data: drawOf(b)} }

// draws lets draws of these bytes wait.
func draws(list ...byte) []api.Step {
	var steps []api.Step
	for _, b := range list {
		steps = append(steps, draw(b))
	}
	return steps
}

func hangUp(conn int) api.Step { return api.Step{Kind: api.StepClose, Conn: conn} }

func crash(keep int) api.Step { return api.Step{Kind: api.StepCrash, N: keep} }

func arm(after, keep int) api.Step { return api.Step{Kind: api.StepArm, N: after, M: keep} }

// join puts lists of steps one behind the other, into memory of its own.
func join(lists ...[]api.Step) []api.Step { return slices.Concat(lists...) }

// Requests, as bytes.

// request is a request; fields are whole lines.
func request(method, target, body string, fields ...string) string {
	lines := append([]string{method + " " + target + " HTTP/1.1", "Host: usher.example"}, fields...)
	if body != "" || method == "POST" {
		lines = append(lines, "Content-Length: "+decimal(len(body)))
	}
	return strings.Join(append(lines, "", ""), "\r\n") + body
}

func getting(target string, fields ...string) string { return request("GET", target, "", fields...) }

func posting(target string, params []api.Pair, fields ...string) string {
	return request("POST", target, formText(params), append([]string{"Content-Type: " + formType}, fields...)...)
}

// pairs are names and values by turns.
func pairs(texts ...string) []api.Pair {
	var list []api.Pair
	for i := 0; i < len(texts); i += 2 {
		list = append(list, api.Pair{Name: texts[i], Value: texts[i+1]})
	}
	return list
}

// and is params with more behind them.
func and(params []api.Pair, texts ...string) []api.Pair {
	return append(slices.Clone(params), pairs(texts...)...)
}

// with is params with these values for that name, in the place of all that it had.
func with(params []api.Pair, name string, values ...string) []api.Pair {
	at := slices.IndexFunc(params, func(p api.Pair) bool { return p.Name == name })
	rest := slices.DeleteFunc(slices.Clone(params), func(p api.Pair) bool { return p.Name == name })
	if at < 0 {
		at = len(rest)
	}
	var fresh []api.Pair
	for _, v := range values {
		fresh = append(fresh, api.Pair{Name: name, Value: v})
	}
	return slices.Insert(rest, min(at, len(rest)), fresh...)
}

// question is what the client app asks of a user, in the order of a consent form.
func question(scope string) []api.Pair {
	return pairs("client_id", "app", "redirect_uri", address, "response_type", "code", "scope", scope, "state", "s 1", "code_challenge", challenge, "code_challenge_method", "S256")
}

func cookie(sid string) string { return "Cookie: sid=" + sid }

func login(user, pass string) string {
	return posting("/login", pairs("user", user, "pass", pass, "next", "/"))
}

func logout(sid string) string { return posting("/logout", nil, cookie(sid)) }

func authorize(sid string, params []api.Pair) string {
	return getting("/authorize?"+formText(params), cookie(sid))
}

// deciding is the consent form of a session for a question, with what else is sent in it.
func deciding(sid string, question []api.Pair, decision string, scopes ...string) string {
	params := and(question, "ticket", ticketOf(sid, question), "decision", decision)
	for _, s := range scopes {
		params = and(params, "grant:"+s, "yes")
	}
	return posting("/consent", params, cookie(sid))
}

func withdrawing(sid, client string) string {
	return posting("/withdraw", pairs("client_id", client, "ticket", ticketOf(sid, pairs("client_id", client))), cookie(sid))
}

// redeemForm is what the client app sends to turn a code into a token.
func redeemForm(code string) []api.Pair {
	return pairs("grant_type", "authorization_code", "code", code, "redirect_uri", address, "code_verifier", verifier, "client_id", "app")
}

func redeeming(code string) string { return posting("/token", redeemForm(code)) }

// renewing turns a refresh token of app into the next; more stands behind the form.
func renewing(refresh string, more ...string) string {
	return posting("/token", and(pairs("grant_type", "refresh_token", "refresh_token", refresh, "client_id", "app"), more...))
}

func introspecting(token string) string {
	return posting("/introspect", pairs("token", token), asWeb())
}

func revoking(token string) string {
	return posting("/revoke", pairs("token", token, "client_id", "app"))
}

// onConn is one step for each request, all on one connection.
func onConn(conn int, requests ...string) []api.Step {
	var steps []api.Step
	for _, r := range requests {
		steps = append(steps, bytesOn(conn, r))
	}
	return steps
}

// Answers, read by the library's own means.

// A seen is an answer as a client reads it.
type seen struct {
	status  int
	header  http.Header
	body    string
	members map[string]any
}

func read(t *testing.T, text string) seen {
	t.Helper()
	got, rest := readFirst(t, text, "GET")
	if rest != "" {
		t.Fatalf("behind an answer stands %q", rest)
	}
	return got
}

// readFirst reads the first answer of a text; method is that of the request.
func readFirst(t *testing.T, text, method string) (seen, string) {
	t.Helper()
	in := bufio.NewReader(strings.NewReader(text))
	r, err := http.ReadResponse(in, &http.Request{Method: method})
	if err != nil {
		t.Fatalf("what went out is no answer: %v: %q", err, text)
	}
	body, err := io.ReadAll(r.Body)
	if err != nil {
		t.Fatalf("what went out is no whole answer: %v: %q", err, text)
	}
	got := seen{status: r.StatusCode, header: r.Header, body: string(body)}
	if strings.HasPrefix(r.Header.Get("Content-Type"), "application/json") {
		if err := json.Unmarshal(body, &got.members); err != nil {
			t.Fatalf("an object cannot be read: %v: %q", err, body)
		}
	}
	rest, _ := io.ReadAll(in)
	return got, string(rest)
}

// member is a text of an object.
func (r seen) member(name string) string {
	text, _ := r.members[name].(string)
	return text
}

func (r seen) isActive() bool { return r.members["active"] == true }

func (r seen) location() string { return r.header.Get("Location") }

// sid is what the answer gives a browser to keep.
func (r seen) sid() (string, bool) {
	for _, c := range (&http.Response{Header: r.header}).Cookies() {
		if c.Name == "sid" {
			return c.Value, true
		}
	}
	return "", false
}

// code is what the answer lets the browser take back to a client.
func (r seen) code() string {
	to, err := url.Parse(r.location())
	if err != nil || strings.HasPrefix(r.location(), "/") {
		return ""
	}
	return to.Query().Get("code")
}

// Runs.

func mustRun(t *testing.T, text string, script ...api.Step) api.Trace {
	t.Helper()
	return mustResume(t, text, "", 0, script...)
}

// mustResume also holds what every trace must have.
func mustResume(t *testing.T, text, data string, now int, script ...api.Step) api.Trace {
	t.Helper()
	before := slices.Clone(script)
	got, err := world.Resume(text, data, now, script)
	if err != nil {
		t.Fatalf("P20.2: Resume answers %v", err)
	}
	if !slices.Equal(before, script) {
		t.Fatal("P0.5: the steps that were handed in have changed")
	}
	if got.Synced != len(got.Disk) || got.Boots < 1 || got.Now < now || got.Now > api.MaxNow {
		t.Fatalf("P20.10: %d of %d bytes synced, %d boots, the time %d behind %d", got.Synced, len(got.Disk), got.Boots, got.Now, now)
	}
	return got
}

// plain is a trace in which lists without elements are nil.
func plain(a api.Trace) api.Trace {
	a.Outs = append([]api.Out(nil), a.Outs...)
	a.State = plainState(a.State)
	return a
}

func plainState(s api.State) api.State {
	return api.State{
		Sessions: append([]api.Session(nil), s.Sessions...), Consents: append([]api.Consent(nil), s.Consents...), Codes: append([]api.Code(nil), s.Codes...),
		Tokens: append([]api.Token(nil), s.Tokens...), Refreshes: append([]api.Refresh(nil), s.Refreshes...),
	}
}

func isSame(a, b api.Trace) bool { return reflect.DeepEqual(plain(a), plain(b)) }

func isSameState(a, b api.State) bool { return reflect.DeepEqual(plainState(a), plainState(b)) }

// mustBeSame tells where two traces part.
func mustBeSame(t *testing.T, promise string, got, want api.Trace) {
	t.Helper()
	if isSame(got, want) {
		return
	}
	for i := range max(len(got.Outs), len(want.Outs)) {
		var a, b api.Out
		if i < len(got.Outs) {
			a = got.Outs[i]
		}
		if i < len(want.Outs) {
			b = want.Outs[i]
		}
		if a != b {
			t.Fatalf("%s: the answer %d is\n%d %d %q\nwant\n%d %d %q", promise, i, a.Step, a.Conn, a.Text, b.Step, b.Conn, b.Text)
		}
	}
	if got.Disk != want.Disk {
		t.Fatalf("%s: on the disk lies %q\nwant %q", promise, got.Disk, want.Disk)
	}
	if !isSameState(got.State, want.State) {
		t.Fatalf("%s: the state is %+v\nwant %+v", promise, got.State, want.State)
	}
	t.Fatalf("%s: %d synced, the time %d, %d boots; want %d, %d, %d", promise, got.Synced, got.Now, got.Boots, want.Synced, want.Now, want.Boots)
}

// numberless is a trace without the numbers of the steps.
func numberless(a api.Trace) api.Trace {
	a.Outs = slices.Clone(a.Outs)
	for i := range a.Outs {
		a.Outs[i].Step = 0
	}
	return a
}

func oneOf[T any](random *rand.Rand, list ...T) T { return list[random.Intn(len(list))] }
