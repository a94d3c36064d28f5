package bearer_test

import (
	"encoding/base64"
	"strings"
	"testing"

	"usher/api"
	"usher/bearer"
	"usher/disk"
	"usher/field"
	"usher/pkce"
	"usher/store"
	"usher/token"
)

// A till is a back desk with a store under it, and a client that asks it.
type till struct {
	t     *testing.T
	store *store.Store
	desk  *token.Till
	auth  string
}

func newTill(t *testing.T) *till {
	t.Helper()
	secret, err := pkce.Seal("pw", "salt", 1)
	if err != nil {
		t.Fatal(err)
	}
	s, err := store.Open(disk.New(1 << 20))
	if err != nil {
		t.Fatal(err)
	}
	c := api.Config{CodeLife: 10, TokenLife: 100, SessionLife: 1000, RefreshLife: 1000, Rounds: 1, Clients: []api.Client{
		{ID: "app", Public: true, Redirects: []string{"https://a/cb"}, Scopes: []string{"read", "write"}},
		{ID: "web", Secret: secret, Redirects: []string{"https://w/cb"}, Scopes: []string{"read"}},
	}}
	return &till{t: t, store: s, desk: token.New(c, s, pkce.NewSource()), auth: field.BasicOf("web", "pw")}
}

// idOf is the identifier of 32 times that byte.
func idOf(b byte) string {
	return base64.RawURLEncoding.EncodeToString([]byte(strings.Repeat(string([]byte{b}), 32)))
}

// give gives out the token of that byte, of app for ann. Its code is that of the next byte.
func (d *till) give(now int, b byte, scopes ...string) {
	d.t.Helper()
	id, code := idOf(b), idOf(b+1)
	for _, tx := range [][]api.Record{
		{
			{Kind: api.RecConsent, User: "ann", Client: "app", Scopes: scopes, At: now},
			{Kind: api.RecCode, ID: code, Client: "app", User: "ann", Redirect: "https://a/cb", Challenge: strings.Repeat("x", 43), Scopes: scopes, At: now},
		},
		{{Kind: api.RecRedeemed, ID: code}, {Kind: api.RecToken, ID: id, Client: "app", User: "ann", Code: code, Scopes: scopes, At: now}},
	} {
		if err := d.store.Commit(tx); err != nil {
			d.t.Fatalf("a test's transaction is refused: %v", err)
		}
	}
}

// asking is an ask that hands on what the till tells at that time.
func (d *till) asking(now int) func(string) []api.Member {
	return func(id string) []api.Member {
		o, err := d.desk.Introspect(now, d.auth, pairs("token", id))
		if err != nil {
			d.t.Fatalf("the till refuses: %v", err)
		}
		return o.Members
	}
}

// TestAheadOfATill: the guard reads what an introspection answers.
func TestAheadOfATill(t *testing.T) {
	d := newTill(t)
	d.give(0, 1, "read", "write")
	d.give(0, 3, "read")
	one, other := idOf(1), idOf(3)
	g, err := bearer.New(20)
	if err != nil {
		t.Fatal(err)
	}
	must := func(want api.Access, now int, id string, need ...string) {
		t.Helper()
		if got := g.Check(now, bearing(id), need, d.asking(now)); !isSame(got, want) {
			t.Errorf("P22.3: at %d, of %s: %+v, want %+v", now, id[:3], got, want)
		}
	}
	both, read := letIn("ann", "app", "read", "write"), letIn("ann", "app", "read")
	must(both, 5, one, "write")
	must(read, 5, other, "read")
	must(scarce("read write"), 5, other, "read", "write")
	must(worthless, 5, idOf(5), "read")
	if o, err := d.desk.Revoke(10, "", pairs("client_id", "app", "token", one)); o.Status != 200 || err != nil {
		t.Fatalf("the till does not revoke: %+v, %v", o, err)
	}
	must(both, 24, one, "read")
	must(worthless, 25, one, "read")
	must(read, 90, other)
	must(read, 99, other)
	must(worthless, 100, other)
	d.auth = field.BasicOf("web", "wrong")
	g.Forget(other)
	must(worthless, 99, other)
	d.auth = field.BasicOf("web", "pw")
	must(read, 99, other)
}
