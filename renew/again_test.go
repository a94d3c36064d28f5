package renew_test

import (
	"testing"

	"usher/api"
)

// again is a bench on which the refresh token 3 has been turned, at 6, into the token 10 and the refresh token 11; two draws wait. Another family of the same client, 21, 22, 23, stands beside it.
func again(t *testing.T) *bench {
	t.Helper()
	b := newBench(t, config(), 2)
	b.family(1, 2, 3, "web", 5, all...)
	b.family(21, 22, 23, "web", 5, all...)
	b.push(10, 11, 12, 13)
	b.must(given(id(10), id(11), "read"), renewing(6, web(), showing(id(3), "scope", "read")))
	return b
}

// mustCountOn fails unless the family of again counts, or unless nothing of it does; the other family always does.
func (b *bench) mustCountOn(does bool) {
	b.t.Helper()
	for _, now := range []int{-1 << 63, 0, 6, 104} {
		b.mustCount(now, 2, does)
		b.mustCount(now, 10, does)
		b.mustLive(now, 11, does)
		b.mustLive(now, 3, false)
		b.mustCount(now, 22, true)
		b.mustLive(now, 23, true)
	}
}

// TestShownAgain: a second time ends the family, whatever comes with it, and whether it would still live or not; further times write nothing.
func TestShownAgain(t *testing.T) {
	for _, c := range []call{
		renewing(6, web(), showing(id(3))), renewing(0, web(), showing(id(3))), renewing(1005, web(), showing(id(3))), renewing(api.MaxNow, web(), showing(id(3))),
		renewing(6, web(), showing(id(3), "scope", "admin")), renewing(6, web(), showing(id(3), "scope", " ")), renewing(6, web(), showing(id(3), "scope", "read")),
		renewing(6, "", showing(id(3), "client_id", "web", "client_secret", "pw")),
	} {
		b := again(t)
		lies := look(b.disk)
		b.mustCountOn(true)
		b.must(refused("invalid_grant"), c)
		b.mustHold(lies, []api.Record{burnedRecord(id(1))})
		b.mustCountOn(false)
		b.must(refused("invalid_grant"), c.at(1))
		b.must(refused("invalid_grant"), renewing(6, web(), showing(id(11)))) // the newest one of the family
		b.must(refused("invalid_grant"), renewing(6, web(), showing(id(11), "scope", "admin")).at(1))
		b.mustHold(lies, []api.Record{burnedRecord(id(1))})
		if b.source.Left() != 2 {
			t.Errorf("P18.1: %d draws are left", b.source.Left())
		}
		b.boot()
		b.mustCountOn(false)
	}
}

// TestShownAgainInVain: whoever has not come as far as step 7 ends nothing.
func TestShownAgainInVain(t *testing.T) {
	b := again(t)
	lies := look(b.disk)
	b.must(refused("invalid_grant"), renewing(6, svc(), showing(id(3))))
	b.must(refused("invalid_grant"), renewing(6, "", showing(id(3), "client_id", "app")))
	b.must(refused("invalid_client"), renewing(6, basicOf("web", "no"), showing(id(3))))
	b.must(refused("invalid_client"), renewing(6, "", showing(id(3), "client_id", "web")))
	b.must(refused("invalid_request"), renewing(6, web(), showing(id(3), "scope", "read", "scope", "read")))
	b.must(refused("invalid_request"), renewing(6, web(), showing(id(3), "refresh_token", id(3))))
	b.must(refused("unsupported_grant_type"), renewing(6, web(), with(showing(id(3)), "grant_type", "authorization_code")))
	b.must(failure(api.ErrArg), renewing(-1, web(), showing(id(3))))
	b.mustHold(lies)
	b.mustCountOn(true)
}

// TestOtherEndsOfAFamily: behind each of them no refresh token of it is turned, and none lives.
func TestOtherEndsOfAFamily(t *testing.T) {
	for _, end := range []call{redeeming(6, web(), id(1)), redeeming(1000, web(), id(1)), revoking(6, web(), id(3)), revoking(6, web(), id(11))} {
		b := again(t)
		if got := b.do(end); got.err != nil {
			t.Fatalf("%+v answers %+v", end, got)
		}
		b.mustCountOn(false)
		lies := look(b.disk)
		for _, refresh := range []byte{3, 11} {
			b.must(refused("invalid_grant"), renewing(6, web(), showing(id(refresh))))
		}
		b.mustHold(lies)
		b.boot()
		b.mustCountOn(false)
	}
	b := again(t)
	b.commit(withdrawal("web")...)
	for _, refresh := range []byte{3, 11, 23} {
		b.must(refused("invalid_grant"), renewing(6, web(), showing(id(refresh))))
		b.mustLive(6, refresh, false)
	}
}

// TestARevokedTokenEndsNothing: the refresh token beside it lives on.
func TestARevokedTokenEndsNothing(t *testing.T) {
	b := again(t)
	for _, token := range []byte{2, 10} {
		if got := b.do(revoking(6, web(), id(token))); got.err != nil || got.outcome.Status != 200 {
			t.Fatalf("Revoke answers %+v", got)
		}
	}
	b.mustLive(6, 11, true)
	b.must(given(id(12), id(13), "offline_access read write"), renewing(6, web(), showing(id(11))))
	b.mustCount(6, 2, false)
	b.mustCount(6, 10, false)
	b.mustCount(6, 12, true)
}
