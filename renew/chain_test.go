package renew_test

import (
	"slices"
	"testing"

	"usher/api"
)

// TestAChain: each refresh token is good for the next one, at its last tick too, on two desks by turns, with few scopes or all; what was given before counts on. At the end one that was used long ago ends all.
func TestAChain(t *testing.T) {
	const links = 700
	b := newBench(t, config(), 2)
	b.family(1, 2, 3, "web", 5, all...)
	asked := [][]string{nil, {"read"}, {""}, {"write read"}, {"offline_access"}, {"write", ""}}
	scopes := []string{"offline_access read write", "read", "offline_access read write", "read write", "offline_access", "write"}
	refresh, now := id(3), 5
	var tokens, refreshes []string
	var times []int
	for n := range links {
		switch n % 3 {
		case 0:
			now += 999
		case 1:
			now -= 500
		}
		b.pushDraw(counted(2 * n))
		b.pushDraw(counted(2*n + 1))
		token, next := idOf(counted(2*n)), idOf(counted(2*n+1))
		b.must(given(token, next, scopes[n%6]), renewing(now, web(), with(showing(refresh), "scope", asked[n%6]...)).at(n%2))
		if got, ok := b.store.Refresh(next); !ok || !slices.Equal(got.Scopes, all) || got.Code != id(1) {
			t.Fatalf("P18.5: the refresh token %d is %+v, %v", n, got, ok)
		}
		if !b.tills[n%2].Active(now, token) || !b.desks[n%2].Live(now, next) || b.desks[n%2].Live(now, refresh) {
			t.Fatalf("P18.6: the link %d does not hold", n)
		}
		tokens, refreshes, times = append(tokens, token), append(refreshes, refresh), append(times, now)
		refresh = next
	}
	b.mustCount(104, 2, true)
	for n, token := range tokens {
		if !b.tills[0].Active(times[n]+99, token) || b.tills[0].Active(times[n]+100, token) || b.desks[0].Live(0, refreshes[n]) {
			t.Fatalf("P18.7: the link %d does not count as it did", n)
		}
	}
	b.must(answer{holds: true}, living(now+999, refresh))
	b.must(refused("invalid_grant"), renewing(now, web(), showing(refreshes[links/2])))
	b.boot()
	b.mustCount(0, 2, false)
	for n, token := range tokens {
		if b.tills[1].Active(0, token) || b.desks[1].Live(0, refreshes[n]) {
			t.Fatalf("P18.4: of the link %d something counts", n)
		}
	}
	b.must(answer{}, living(0, refresh))
	b.must(refused("invalid_grant"), renewing(now, web(), showing(refresh)))
}

// TestAChainFromACode: the whole way from a code on, for a public client and for one with a secret, with the power failing behind each link.
func TestAChainFromACode(t *testing.T) {
	for _, c := range []struct{ client, auth string }{{"web", web()}, {"app", ""}} {
		var who []api.Pair
		if c.auth == "" {
			who = pairs("client_id", c.client)
		}
		b := newBench(t, config(), 1)
		b.commit(codeRecord(id(1), c.client, 5, all...))
		b.push(10, 11)
		ask := redeeming(6, c.auth, id(1))
		ask.params = append(ask.params, who...)
		if got := b.do(ask); !isSame(got, given(id(10), id(11), "offline_access read write")) {
			t.Fatalf("Token answers %+v", got)
		}
		b.draws = b.draws[2:]
		for n := byte(12); n < 40; n += 2 {
			b.disk.Crash(0)
			b.boot()
			b.push(n, n+1)
			b.must(given(id(n), id(n+1), "read"), renewing(int(n), c.auth, append(showing(id(n-1), "scope", "read"), who...)))
			b.mustCount(int(n), n, true)
			b.mustCount(int(n), n-2, true)
			b.mustLive(int(n), n+1, true)
			b.mustLive(int(n), n-1, false)
		}
	}
}

// TestARenewalTakesOneAway: other refresh tokens of the same family, and all tokens, stay as they were.
func TestARenewalTakesOneAway(t *testing.T) {
	b := newBench(t, config(), 1)
	b.family(1, 2, 3, "web", 5, all...)
	b.commit(refreshRecord(id(4), id(1), "web", 5, "read"), tokenRecord(id(5), id(1), "web", 50, "read"))
	b.commit(tokenRecord(id(6), id(1), "web", 50, "read"), api.Record{Kind: api.RecRevoked, ID: id(6)})
	b.push(10, 11, 12, 13)
	before := b.store.State()
	b.must(given(id(10), id(11), "offline_access read write"), renewing(90, web(), showing(id(3))))
	for _, was := range before.Tokens {
		if got, ok := b.store.Token(was.ID); !ok || got.Revoked != was.Revoked || got.At != was.At || !slices.Equal(got.Scopes, was.Scopes) {
			t.Errorf("P18.7: %+v has become %+v, %v", was, got, ok)
		}
	}
	b.mustCount(104, 2, true)
	b.mustCount(105, 2, false)
	b.mustCount(149, 5, true)
	b.mustCount(90, 6, false)
	b.mustLive(1004, 4, true)
	b.must(given(id(12), id(13), "read"), renewing(1004, web(), showing(id(4))))
	b.mustLive(1004, 11, true)
}
