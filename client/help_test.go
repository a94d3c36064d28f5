package client_test

import (
	"crypto/sha256"
	"encoding/base64"
	"encoding/json"
	"fmt"
	"math"
	"math/rand"
	"reflect"
	"slices"
	"strconv"
	"strings"
	"testing"

	"usher/api"
	"usher/client"
)

const (
	home  = "https://a.example/cb"
	last  = 1 << 40 // the last time
	maxID = 64      // bytes of a name
)

// pairs are names and values by turns.
func pairs(texts ...string) []api.Pair {
	var list []api.Pair
	for i := 0; i < len(texts); i += 2 {
		list = append(list, api.Pair{Name: texts[i], Value: texts[i+1]})
	}
	return list
}

// draw is 32 bytes that no other number has.
func draw(number int) string {
	sum := sha256.Sum256([]byte(strconv.Itoa(number)))
	return string(sum[:])
}

// same is 32 times one byte.
func same(b byte) string { return strings.Repeat(string([]byte{b}), 32) }

func letters(raw string) string { return base64.RawURLEncoding.EncodeToString([]byte(raw)) }

func challengeOf(verifier string) string {
	sum := sha256.Sum256([]byte(verifier))
	return letters(string(sum[:]))
}

// object is the text of an object: names and values by turns.
func object(parts ...any) string {
	var list []string
	for i := 0; i < len(parts); i += 2 {
		name, _ := json.Marshal(parts[i])
		value, _ := json.Marshal(parts[i+1])
		list = append(list, string(name)+":"+string(value))
	}
	return "{" + strings.Join(list, ",") + "}"
}

func answer(status int, body string) api.Reply { return api.Reply{Status: status, Body: body} }

// giving is an answer that gives a token; an empty refresh token is not there.
func giving(token string, life int, scope, refresh string) api.Reply {
	parts := []any{"access_token", token, "token_type", "Bearer", "expires_in", life}
	if refresh != "" {
		parts = append(parts, "refresh_token", refresh)
	}
	return answer(200, object(append(parts, "scope", scope)...))
}

// refusing is an answer that names an error.
func refusing(status int, reason string) api.Reply { return answer(status, object("error", reason)) }

// everyByte is the 256 bytes, rising.
func everyByte() string {
	b := make([]byte, 256)
	for i := range b {
		b[i] = byte(i)
	}
	return string(b)
}

// noise is size bytes out of those of from.
func noise(random *rand.Rand, from string, size int) string {
	b := make([]byte, size)
	for i := range b {
		b[i] = from[random.Intn(len(from))]
	}
	return string(b)
}

func oneOf[T any](random *rand.Rand, list ...T) T { return list[random.Intn(len(list))] }

// changed goes through the texts that are one byte away from s: another one, one more, one less; and its ends.
func changed(s string, look func(string)) {
	for at := range len(s) + 1 {
		for n := range 256 {
			b := string([]byte{byte(n)})
			look(s[:at] + b + s[at:])
			if at < len(s) {
				look(s[:at] + b + s[at+1:])
			}
		}
		look(s[:at])
		look(s[at:])
		if at < len(s) {
			look(s[:at] + s[at+1:])
		}
	}
}

// isSame takes lists without elements for one another, as nothing hangs on which they are.
func isSame(a, b api.Request) bool {
	if !slices.Equal(a.Fields, b.Fields) {
		return false
	}
	a.Fields, b.Fields = nil, nil
	return reflect.DeepEqual(a, b)
}

// told is a request as a text, in which any part of it is found.
func told(q api.Request) string {
	return fmt.Sprintf("%s %s %q %s", q.Method, q.Target, q.Fields, q.Body)
}

// A bench is a client with the model of it beside it, and, if it is asked for, a ledger of what was sent.
type bench struct {
	t      *testing.T
	client *client.Client
	model  *model
	ledger *ledger
}

func newBenchOf(t *testing.T, id, secret, redirect string, scopes ...string) *bench {
	t.Helper()
	c, err := client.New(id, secret, redirect, scopes)
	m := newModel(id, secret, redirect, scopes)
	if c == nil || err != nil || m == nil {
		t.Fatalf("P24.1: New(%q, %q, %q, %q) = %v, %v", id, secret, redirect, scopes, c, err)
	}
	b := &bench{t: t, client: c, model: m}
	b.look()
	return b
}

// newBench is a public client like that of the chapter's examples.
func newBench(t *testing.T) *bench {
	t.Helper()
	return newBenchOf(t, "app", "", home, "write", "read")
}

// look fails unless the client keeps what the model does, as far as that may be looked at.
func (b *bench) look() {
	b.t.Helper()
	_, end := b.model.token()
	b.lookAt(math.MinInt, -1, 0, end-1, end, end+1, last-1, last, last+1, math.MaxInt)
	if got, want := b.client.Scopes(), b.model.scopes(); !slices.Equal(got, want) {
		b.t.Fatalf("P24.7: Scopes() = %q, want %q", got, want)
	}
	if got, want := b.client.Failed(), b.model.failed(); got != want {
		b.t.Fatalf("P24.7: Failed() = %q, want %q", got, want)
	}
}

// lookAt asks for the token at some times.
func (b *bench) lookAt(times ...int) {
	b.t.Helper()
	text, end := b.model.token()
	for _, now := range times {
		want := ""
		if nearest(now) < end {
			want = text
		}
		if got, ok := b.client.Token(now); got != want || ok != (want != "") {
			b.t.Fatalf("P24.7: Token(%d) = %q, %v, want %q; its end is %d", now, got, ok, want, end)
		}
	}
}

func (b *bench) begin(state, verifier string) (string, error) {
	b.t.Helper()
	want, wantErr := b.model.begin(state, verifier)
	got, err := b.client.Begin(state, verifier)
	if got != want || err != wantErr {
		b.t.Fatalf("P24.2: Begin(%+q, %+q)\nanswers %q, %v\nwant    %q, %v", state, verifier, got, err, want, wantErr)
	}
	if b.ledger != nil && err == nil {
		b.ledger.begun(b.t, state, verifier, got)
	}
	b.look()
	return got, err
}

func (b *bench) back(uri string) error {
	b.t.Helper()
	want := b.model.back(uri)
	err := b.client.Return(uri)
	if err != want {
		b.t.Fatalf("P24.3: of %q Return(%q) = %v, want %v", b.model.redirect, uri, err, want)
	}
	if b.ledger != nil && err == nil {
		b.ledger.returned(b.t, uri)
	}
	b.look()
	return err
}

// sends makes one of the three requests, and fails unless the client answers as the model does.
func (b *bench) sends(promise string, got func() (api.Request, error), want func() (api.Request, error)) (api.Request, error) {
	b.t.Helper()
	wantQ, wantErr := want()
	q, err := got()
	if !isSame(q, wantQ) || err != wantErr {
		b.t.Fatalf("%s: the request is\n%q, %v\nwant\n%q, %v", promise, told(q), err, told(wantQ), wantErr)
	}
	if err == nil {
		mustBeRead(b.t, q)
	}
	if b.ledger != nil && err == nil {
		b.ledger.sent(b.t, q)
	}
	b.look()
	return q, err
}

func (b *bench) redeem() (api.Request, error) {
	b.t.Helper()
	return b.sends("P24.4", b.client.Redeem, b.model.redeem)
}

func (b *bench) renew() (api.Request, error) {
	b.t.Helper()
	return b.sends("P24.5", b.client.Renew, b.model.renew)
}

func (b *bench) drop() (api.Request, error) {
	b.t.Helper()
	return b.sends("P24.5", b.client.Drop, b.model.drop)
}

func (b *bench) take(now int, r api.Reply) error {
	b.t.Helper()
	of := b.model.out()
	want := b.model.take(now, r)
	if err := b.client.Take(now, r); err != want {
		b.t.Fatalf("P24.6: behind %q Take(%d, %d, %+q) = %v, want %v", of, now, r.Status, r.Body, err, want)
	}
	b.look()
	return want
}

// must fails unless a call has answered this.
func (b *bench) must(got, want error) {
	b.t.Helper()
	if got != want {
		b.t.Fatalf("a call answers %v, want %v", got, want)
	}
}

// mustHave fails unless the token and its scopes are these; an empty token is none.
func (b *bench) mustHave(now int, token string, scopes ...string) {
	b.t.Helper()
	if got, ok := b.client.Token(now); got != token || ok != (token != "") || !slices.Equal(b.client.Scopes(), scopes) {
		b.t.Fatalf("P24.7: at %d Token = %q, %v, Scopes %q; want %q, %q", now, got, ok, b.client.Scopes(), token, scopes)
	}
}

// mustBeEmpty fails unless nothing waits: no answer, no code, no request, no token.
func (b *bench) mustBeEmpty() {
	b.t.Helper()
	b.must(b.back(home+"?code=k&state="+letters(draw(0))), api.ErrLost)
	b.mustLack(b.redeem)
	b.mustLack(b.renew)
	b.mustLack(b.drop)
	b.must(b.take(0, giving("t", 1, "read", "")), api.ErrLost)
	b.mustHave(0, "")
}

// mustLack fails unless there is nothing of which to make that request.
func (b *bench) mustLack(request func() (api.Request, error)) {
	b.t.Helper()
	_, err := request()
	b.must(err, api.ErrLost)
}

// mustSend fails unless that request has this body.
func (b *bench) mustSend(request func() (api.Request, error), body string) {
	b.t.Helper()
	q, err := request()
	if q.Body != body || err != nil {
		b.t.Fatalf("P24.4, P24.5: the body is %q, %v, want %q", q.Body, err, body)
	}
}

// toCode leads the client to a code that waits, with the draws of that number and the one behind it.
func (b *bench) toCode(number int, code string) {
	b.t.Helper()
	_, err := b.begin(draw(number), draw(number+1))
	b.must(err, nil)
	b.must(b.back(b.own("code", code, letters(draw(number)))), nil)
}

// own is the answer to a beginning with that state.
func (b *bench) own(name, value, state string) string {
	return answerOf(b.model.redirect, name, value, "state", state)
}

// toToken leads the client to a token.
func (b *bench) toToken(now, number int, r api.Reply) {
	b.t.Helper()
	b.toCode(number, fmt.Sprint("code", number))
	_, err := b.redeem()
	b.must(err, nil)
	b.must(b.take(now, r), nil)
}
