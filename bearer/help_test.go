package bearer_test

import (
	"fmt"
	"math/rand"
	"reflect"
	"slices"
	"strings"
	"testing"

	"usher/api"
	"usher/bearer"
	"usher/field"
)

const (
	form  = "application/x-www-form-urlencoded"
	realm = `Bearer realm="usher"`
	most  = 256     // tokens that are remembered
	last  = 1 << 40 // the last time
)

// request is one with these fields: names and values by turns.
func request(method, target, body string, fields ...string) api.Request {
	return api.Request{Method: method, Target: target, Minor: 1, Fields: pairs(fields...), Body: body}
}

// pairs are names and values by turns.
func pairs(texts ...string) []api.Pair {
	var list []api.Pair
	for i := 0; i < len(texts); i += 2 {
		list = append(list, api.Pair{Name: texts[i], Value: texts[i+1]})
	}
	return list
}

func get(target string, fields ...string) api.Request { return request("GET", target, "", fields...) }

// authorized is a request with that Authorization field.
func authorized(value string) api.Request { return get("/r", "Authorization", value) }

// bearing is one that shows a token by its field.
func bearing(token string) api.Request { return authorized("Bearer " + token) }

// posted is a form.
func posted(body string) api.Request { return request("POST", "/r", body, "Content-Type", form) }

// everyByte is the 256 bytes, rising.
func everyByte() string {
	b := make([]byte, 256)
	for i := range b {
		b[i] = byte(i)
	}
	return string(b)
}

// noise is size bytes out of those of from.
func noise(random *rand.Rand, from string, size int) string {
	b := make([]byte, size)
	for i := range b {
		b[i] = from[random.Intn(len(from))]
	}
	return string(b)
}

func oneOf[T any](random *rand.Rand, list ...T) T { return list[random.Intn(len(list))] }

// changed goes through the texts that are one byte away from s: another one, one more, one less; and its ends.
func changed(s string, look func(string)) {
	for at := range len(s) + 1 {
		for n := range 256 {
			b := string([]byte{byte(n)})
			look(s[:at] + b + s[at:])
			if at < len(s) {
				look(s[:at] + b + s[at+1:])
			}
		}
		look(s[:at])
		look(s[at:])
		if at < len(s) {
			look(s[:at] + s[at+1:])
		}
	}
}

// Answers.

func text(name, value string) api.Member {
	return api.Member{Name: name, Kind: api.MemText, Text: value}
}

func number(name string, value int) api.Member {
	return api.Member{Name: name, Kind: api.MemNum, Num: value}
}

func flag(name string, value bool) api.Member {
	return api.Member{Name: name, Kind: api.MemFlag, Flag: value}
}

// active is an answer that is good, with more members behind.
func active(more ...api.Member) []api.Member {
	return append([]api.Member{flag("active", true)}, more...)
}

// anns is an answer that is good until a time: ann has allowed web these scopes.
func anns(exp int, scopes string) []api.Member {
	return active(text("scope", scopes), text("client_id", "web"), text("username", "ann"), text("token_type", "Bearer"), number("exp", exp), number("iat", 0))
}

// Decisions.

func letIn(user, client string, scopes ...string) api.Access {
	return api.Access{Status: 200, User: user, Client: client, Scopes: scopes}
}

func refused(status int, reason string) api.Access {
	return api.Access{Status: status, Error: reason, Challenge: realm + `, error="` + reason + `"`}
}

func scarce(needed string) api.Access {
	a := refused(403, "insufficient_scope")
	a.Challenge += `, scope="` + needed + `"`
	return a
}

var (
	unshown   = api.Access{Status: 401, Challenge: realm}
	unread    = refused(400, "invalid_request")
	worthless = refused(401, "invalid_token")
)

// isSame takes lists without elements for one another, as nothing hangs on which they are.
func isSame(a, b api.Access) bool {
	if !slices.Equal(a.Scopes, b.Scopes) {
		return false
	}
	a.Scopes, b.Scopes = nil, nil
	return reflect.DeepEqual(a, b)
}

// The calls, and what they must answer.

func mustFind(t *testing.T, q api.Request, want string) {
	t.Helper()
	if got, err := bearer.Find(q); got != want || err != nil {
		t.Errorf("P22.1: Find(%+q) = %q, %v, want %q", fmt.Sprint(q), got, err, want)
	}
}

func mustNotFind(t *testing.T, q api.Request, want error) {
	t.Helper()
	if got, err := bearer.Find(q); got != "" || err != want {
		t.Errorf("P22.1: Find(%+q) = %q, %v, want %v", fmt.Sprint(q), got, err, want)
	}
}

// mustFindAsModel holds Find against the model.
func mustFindAsModel(t *testing.T, q api.Request) {
	t.Helper()
	if want, err := modelFind(q); err != nil {
		mustNotFind(t, q, err)
	} else {
		mustFind(t, q, want)
	}
}

// A bench is a guard with the model of it beside it, and a ledger of what it was told.
type bench struct {
	t      *testing.T
	guard  *bearer.Guard
	model  model
	ledger ledger
}

func newBench(t *testing.T, life int) *bench {
	t.Helper()
	g, err := bearer.New(life)
	if err != nil || g == nil {
		t.Fatalf("P22.2: New(%d) = %v, %v", life, g, err)
	}
	b := &bench{t: t, guard: g, model: model{life: life}, ledger: ledger{life: life}}
	b.look(0, last)
	return b
}

// check makes a Check, with an ask that answers that, and fails unless the guard decides and asks as the model does, and lets in what the ledger lets in. What ask has answered is written over behind the call.
func (b *bench) check(now int, q api.Request, need []string, answer []api.Member) api.Access {
	b.t.Helper()
	want, wantAsked := b.model.check(now, q, need, answer)
	var asked []string
	list := slices.Clone(answer)
	got := b.guard.Check(now, q, need, func(token string) []api.Member {
		asked = append(asked, token)
		return list
	})
	for i := range list {
		list[i] = flag("active", false)
	}
	switch {
	case !isSame(got, want):
		b.t.Fatalf("P22.3: Check(%d, %+q, %q, %+v)\nanswers %+q\nwant    %+q", now, fmt.Sprint(q), need, answer, fmt.Sprint(got), fmt.Sprint(want))
	case !slices.Equal(asked, wantAsked):
		b.t.Fatalf("P22.3: Check(%d, %+q, %q, %+v) asks about %q, want %q", now, fmt.Sprint(q), need, answer, asked, wantAsked)
	case !field.Value(got.Challenge) || (got.Challenge == "") != (got.Status == 200):
		b.t.Fatalf("P22.7: with the status %d the challenge is %q", got.Status, got.Challenge)
	}
	if reason := b.ledger.check(now, q, need, answer, asked, got); reason != "" {
		b.t.Fatalf("P22.6: Check(%d, %+q, %q, %+v) lets in %s", now, fmt.Sprint(q), need, answer, reason)
	}
	b.look(now)
	return got
}

// must makes a Check, and fails unless it decides that, and asks or does not: what stands in the test itself, not in the model.
func (b *bench) must(want api.Access, asks bool, now int, q api.Request, need []string, answer []api.Member) {
	b.t.Helper()
	before := len(b.ledger.said)
	if got := b.check(now, q, need, answer); !isSame(got, want) {
		b.t.Fatalf("P22.3: Check(%d, %+q, %q, %+v)\nanswers %+q\nwant    %+q", now, fmt.Sprint(q), need, answer, fmt.Sprint(got), fmt.Sprint(want))
	}
	if (len(b.ledger.said) > before) != asks {
		b.t.Fatalf("P22.3: Check(%d, %+q, %q, %+v) asks: %v, want %v", now, fmt.Sprint(q), need, answer, !asks, asks)
	}
}

// tell lets the guard be told at a time that a token is good.
func (b *bench) tell(now int, tokens ...string) {
	b.t.Helper()
	for _, token := range tokens {
		b.must(letIn("", ""), true, now, bearing(token), nil, active())
	}
}

// mustKnow fails unless something is remembered of each token that counts at that time.
func (b *bench) mustKnow(now int, tokens ...string) {
	b.t.Helper()
	for _, token := range tokens {
		b.must(letIn("", ""), false, now, bearing(token), nil, nil)
	}
}

// mustNotKnow fails if something is remembered of one of the tokens that counts at that time. A bad answer drops nothing.
func (b *bench) mustNotKnow(now int, tokens ...string) {
	b.t.Helper()
	for _, token := range tokens {
		b.must(worthless, true, now, bearing(token), nil, nil)
	}
}

func (b *bench) forget(token string) {
	b.t.Helper()
	b.guard.Forget(token)
	b.model.forget(token)
	b.ledger.forget(token)
	b.look(0)
}

// look holds Held against the model, twice: it changes nothing.
func (b *bench) look(times ...int) {
	b.t.Helper()
	for range 2 {
		for _, now := range times {
			if got, want := b.guard.Held(now), b.model.held(now); got != want {
				b.t.Fatalf("P22.5: Held(%d) = %d, want %d", now, got, want)
			}
		}
	}
}

// mustHold fails unless Held answers that.
func (b *bench) mustHold(now, want int) {
	b.t.Helper()
	b.look(now)
	if got := b.guard.Held(now); got != want {
		b.t.Fatalf("P22.5: Held(%d) = %d, want %d", now, got, want)
	}
}

// tokens are so many, from that number on.
func tokens(from, count int) []string {
	var list []string
	for i := range count {
		list = append(list, fmt.Sprint("t", from+i))
	}
	return list
}

// repeated is so many of the same part, with that between each two.
func repeated(part string, count int, between string) string {
	return strings.TrimSuffix(strings.Repeat(part+between, count), between)
}
