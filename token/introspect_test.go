package token_test

import (
	"math"
	"testing"

	"usher/api"
)

// TestStepsOfIntrospect: each of them, and ahead of later ones.
func TestStepsOfIntrospect(t *testing.T) {
	b := newBench(t, config(), 1)
	b.family(1, 2, 3, "web", "read", "write")
	tokens := [][]api.Pair{nil, pairs("token", ""), pairs("token", id(2), "token", id(2)), pairs("token", "x", "token", "y"), pairs("token", "x"), pairs("token", id(2))}
	for _, params := range tokens {
		b.must(refused("invalid_client"), introspect(7, "", params))
		b.must(refused("invalid_client"), introspect(7, "", and(params, "client_id", "app"))) // a public one has shown nothing
		b.must(refused("invalid_client"), introspect(7, "", and(params, "client_id", "spa")))
		b.must(refused("invalid_client"), introspect(7, "", and(params, "client_id", "web")))
		b.must(refused("invalid_client"), introspect(7, basicOf("web", "no"), params))
		b.must(refused("invalid_request"), introspect(7, basic("web"), and(params, "client_secret", "pw")))
	}
	for _, params := range append(tokens[:4:4], pairs("Token", id(2)), pairs("token ", id(2)), pairs("code", id(2)), pairs("access_token", id(2))) {
		b.must(refused("invalid_request"), introspect(7, basic("web"), params))
		b.must(refused("invalid_request"), introspect(7, "", and(params, "client_id", "web", "client_secret", "pw")))
	}
	for _, no := range []string{"x", " ", id(1), id(3), id(9), id(2)[:42], id(2) + "A", " " + id(2), "\x00", "web"} {
		b.must(inactive, introspect(7, basic("web"), pairs("token", no)))
		b.must(answer{}, active(7, no))
	}
	b.must(answer{}, active(7, ""))
}

// TestWhoMayIntrospect: every client with a secret, about every token, in either way; what it says beside is not looked at.
func TestWhoMayIntrospect(t *testing.T) {
	b := newBench(t, config(), 1)
	b.family(1, 2, 3, "web", "read", "write")
	b.family(4, 5, 6, "app", "offline_access")
	for name, pass := range passwords {
		for _, more := range [][]api.Pair{nil, pairs("token_type_hint", "refresh_token"), pairs("token_type_hint", "x", "token_type_hint", "y"), pairs("client_id", name, "scope", "x", "", "", "token", "")} {
			b.must(told("web", "ann", "read write", 6), introspect(7, basic(name), append(pairs("token", id(2)), more...)))
			b.must(told("app", "ann", "offline_access", 6), introspect(7, basic(name), append(more, pairs("token", id(5))...)))
		}
		if pass != "" {
			b.must(told("app", "ann", "offline_access", 6), introspect(7, "", pairs("client_id", name, "client_secret", pass, "token", id(5))))
		}
	}
}

// mustCount fails unless Introspect and Active say so of web's token.
func (b *bench) mustCount(now int, token byte, counts bool) {
	b.t.Helper()
	b.must(answer{isActive: counts}, active(now, id(token)))
	got := b.play(introspect(now, basic("svc"), pairs("token", id(token))))
	if got.outcome.Status != 200 || got.outcome.Error != "" || got.outcome.Challenge || len(got.outcome.Members) == 0 || got.outcome.Members[0] != flag("active", counts) || (len(got.outcome.Members) == 7) != counts {
		b.t.Fatalf("P17.4: at %d a token that counts, %v, is told by %+v", now, counts, got)
	}
}

// TestLifeOfAToken: to its last tick and no longer, at the ends of all that can be; its code's time is not looked at.
func TestLifeOfAToken(t *testing.T) {
	for _, life := range []int{1, 2, 100, api.MaxLife} {
		for _, at := range []int{0, 1, 6, 1 << 35, api.MaxNow} {
			c := config()
			c.TokenLife = life
			b := newBench(t, c, 1)
			b.code(1, "web", "read")
			b.commit(redeemedRecord(id(1)), tokenRecord(id(2), id(1), "web", at, "read"))
			for _, now := range []int{math.MinInt, -1 << 41, -1, 0, 1, at - 1, at, at + life/2, at + life - 1, at + life, at + life + 1, api.MaxNow + api.MaxLife, math.MaxInt} {
				b.mustCount(now, 2, now < at+life)
			}
			want := done(flag("active", true), text("scope", "read"), text("client_id", "web"), text("username", "ann"), text("token_type", "Bearer"), number("exp", at+life), number("iat", at))
			b.must(want, introspect(at, basic("web"), pairs("token", id(2))))
		}
	}
}

// TestWhatEndsAToken beside its time: that it is revoked, that its code is burned, that the consent is taken back; not that its refresh token is used, that another token is revoked, or that another code is burned.
func TestWhatEndsAToken(t *testing.T) {
	ready := func() *bench {
		b := newBench(t, config(), 1)
		b.family(1, 2, 3, "web", "read")
		b.family(4, 5, 6, "web", "read")
		b.commit(tokenRecord(id(7), id(1), "web", 6, "read"))
		b.commit(api.Record{Kind: api.RecConsent, User: "ann", Client: "web", Scopes: []string{"read"}, At: 6})
		return b
	}
	for _, c := range []struct {
		tx    api.Record
		two   bool
		seven bool
		five  bool
	}{
		{revokedRecord(id(2)), false, true, true}, {revokedRecord(id(7)), true, false, true}, {revokedRecord(id(5)), true, true, false}, {burnedRecord(id(1)), false, false, true}, {burnedRecord(id(4)), true, true, false},
		{api.Record{Kind: api.RecTurned, ID: id(3)}, true, true, true}, {api.Record{Kind: api.RecWithdrawn, User: "ann", Client: "web"}, false, false, false},
	} {
		b := ready()
		for _, token := range []byte{2, 7, 5} {
			b.mustCount(105, token, true)
		}
		b.commit(c.tx)
		for _, now := range []int{math.MinInt, 0, 7, 105} {
			b.mustCount(now, 2, c.two)
			b.mustCount(now, 7, c.seven)
			b.mustCount(now, 5, c.five)
		}
		for _, token := range []byte{2, 7, 5} {
			b.mustCount(106, token, false)
		}
	}
}

// TestAskingChangesNothing, on a disk that is full or dead neither.
func TestAskingChangesNothing(t *testing.T) {
	first := newBench(t, config(), 1)
	first.family(1, 2, 3, "web", "read")
	lies := look(first.disk)
	b := benchOn(t, config(), 1, lies, len(lies))
	b.push(4)
	before := b.store.State()
	ask := func() {
		for _, now := range []int{-1, 7, 105, 106} {
			b.mustCount(now, 2, now < 106)
			b.mustCount(now, 3, false)
			b.must(refused("invalid_client"), introspect(now, "", pairs("client_id", "app", "token", id(2))))
		}
	}
	ask()
	b.counts = false
	b.disk.Crash(0)
	ask()
	if !isSameState(before, b.store.State()) || b.source.Left() != 1 {
		t.Error("P17.4: asking has changed something")
	}
}
