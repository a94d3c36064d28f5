package token_test

import (
	"math"
	"testing"

	"usher/api"
)

// TestStepsOfRevoke: each of them, and ahead of later ones.
func TestStepsOfRevoke(t *testing.T) {
	b := newBench(t, config(), 1)
	b.family(1, 2, 3, "web", "read")
	b.family(4, 5, 6, "app", "read")
	lies := look(b.disk)
	for _, params := range [][]api.Pair{nil, pairs("token", ""), pairs("token", id(2), "token", id(2)), pairs("token", id(3), "token", id(2)), pairs("token", "x"), pairs("token", id(2)), pairs("token", id(3)), pairs("token", id(5))} {
		b.must(refused("invalid_client"), revoke(7, "", params))
		b.must(refused("invalid_client"), revoke(7, "", and(params, "client_id", "web")))
		b.must(refused("invalid_client"), revoke(7, basicOf("web", "no"), params))
		b.must(refused("invalid_request"), revoke(7, basic("web"), and(params, "client_id", "app")))
	}
	for _, params := range [][]api.Pair{nil, pairs("token", ""), pairs("token", id(2), "token", id(2)), pairs("token", id(3), "token", id(2)), pairs("Token", id(2)), pairs("refresh_token", id(3)), pairs("access_token", id(2))} {
		b.must(refused("invalid_request"), revoke(7, basic("web"), params))
		b.must(refused("invalid_request"), revoke(7, "", and(params, "client_id", "app")))
	}
	for _, no := range []string{"x", id(1), id(4), id(9), id(2)[:42], id(2) + "A", " " + id(2), "\x00", "web"} {
		b.must(done(), revoke(7, basic("web"), pairs("token", no)))
		b.must(done(), revoke(7, "", pairs("token", no, "client_id", "app")))
	}
	for _, other := range []byte{5, 6} {
		b.must(refused("unauthorized_client"), revoke(7, basic("web"), pairs("token", id(other))))
		b.must(refused("unauthorized_client"), revoke(7, basic("svc"), pairs("token", id(other))))
		b.must(refused("unauthorized_client"), revoke(7, "", pairs("token", id(other), "client_id", "spa")))
	}
	for _, other := range []byte{2, 3} {
		b.must(refused("unauthorized_client"), revoke(7, "", pairs("token", id(other), "client_id", "app")))
		b.must(refused("unauthorized_client"), revoke(7, basic("svc"), pairs("token", id(other))))
	}
	b.mustHold(lies)
}

// TestAnothersEndIsNotTold: that it is another's is said also where it has ended.
func TestAnothersEndIsNotTold(t *testing.T) {
	b := newBench(t, config(), 1)
	b.family(1, 2, 3, "web", "read")
	b.commit(revokedRecord(id(2)), burnedRecord(id(1)))
	for _, token := range []byte{2, 3} {
		b.must(refused("unauthorized_client"), revoke(7, basic("svc"), pairs("token", id(token))))
		b.must(refused("unauthorized_client"), revoke(7, "", pairs("token", id(token), "client_id", "app")))
	}
}

// TestRevokeAToken: it alone counts no more; a second time writes nothing.
func TestRevokeAToken(t *testing.T) {
	for _, now := range []int{math.MinInt, -1, 0, 7, 105, 106, 1000, api.MaxNow + 1, math.MaxInt} { // also one that has run out
		for _, hint := range [][]api.Pair{nil, pairs("token_type_hint", "refresh_token"), pairs("token_type_hint", "x", "token", "")} {
			b := newBench(t, config(), 2)
			b.family(1, 2, 3, "web", "read")
			b.commit(tokenRecord(id(4), id(1), "web", 6, "read"))
			lies := look(b.disk)
			b.must(done(), revoke(now, basic("web"), append(pairs("token", id(2)), hint...)))
			b.mustHold(lies, []api.Record{revokedRecord(id(2))})
			for range 2 {
				b.must(done(), revoke(now, "", append(hint, pairs("token", id(2), "client_id", "web", "client_secret", "pw")...)).at(1))
			}
			b.mustHold(lies, []api.Record{revokedRecord(id(2))})
			for _, at := range []int{math.MinInt, 6, 105} {
				b.mustCount(at, 2, false)
				b.mustCount(at, 4, true)
			}
			if got, _ := b.store.Code(id(1)); got.Burned {
				t.Error("P17.5: revoking a token has burned its code")
			}
		}
	}
}

// TestRevokeARefreshToken: all that came of the code counts no more; a second time writes nothing.
func TestRevokeARefreshToken(t *testing.T) {
	for _, now := range []int{math.MinInt, -1, 0, 7, 1005, 1006, api.MaxNow + 1, math.MaxInt} { // also one that has run out
		for _, isUsed := range []bool{false, true} {
			b := newBench(t, config(), 2)
			b.family(1, 2, 3, "web", "read")
			b.commit(tokenRecord(id(4), id(1), "web", 6, "read"), refreshRecord(id(5), id(1), "web", 6, "read"))
			b.family(11, 12, 13, "web", "read")
			if isUsed {
				b.commit(api.Record{Kind: api.RecTurned, ID: id(3)})
			}
			lies := look(b.disk)
			b.must(done(), revoke(now, basic("web"), pairs("token", id(3), "token_type_hint", "access_token")))
			b.mustHold(lies, []api.Record{burnedRecord(id(1))})
			b.must(done(), revoke(now, basic("web"), pairs("token", id(3))).at(1))
			b.must(done(), revoke(now, basic("web"), pairs("token", id(5))))
			b.mustHold(lies, []api.Record{burnedRecord(id(1))})
			for _, at := range []int{math.MinInt, 6, 105} {
				b.mustCount(at, 2, false)
				b.mustCount(at, 4, false)
				b.mustCount(at, 12, true)
			}
			b.must(done(), revoke(now, basic("web"), pairs("token", id(2)))) // a token whose code is burned is revoked as any other
			b.mustHold(lies, []api.Record{burnedRecord(id(1))}, []api.Record{revokedRecord(id(2))})
		}
	}
}

// TestRevokeByAPublicClient: its name is enough.
func TestRevokeByAPublicClient(t *testing.T) {
	b := newBench(t, config(), 1)
	b.family(1, 2, 3, "app", "read")
	b.must(done(), revoke(7, "", pairs("token", id(2), "client_id", "app")))
	b.mustCount(7, 2, false)
	b.must(done(), revoke(7, "", pairs("token", id(3), "client_id", "app")))
	if got, _ := b.store.Code(id(1)); !got.Burned {
		t.Errorf("P17.5: the code is %+v", got)
	}
}

// TestRevokeThatIsRefused: on a full disk and on one that dies what was to end counts on, unless it is found to have ended behind the death.
func TestRevokeThatIsRefused(t *testing.T) {
	for _, c := range []struct {
		token byte
		tx    api.Record
	}{{2, revokedRecord(id(2))}, {3, burnedRecord(id(1))}} {
		first := newBench(t, config(), 1)
		first.family(1, 2, 3, "web", "read")
		lies := look(first.disk)
		asked := revoke(7, basic("web"), pairs("token", id(c.token)))
		full(t, func(room int) *bench { return benchOn(t, config(), 1, lies, len(lies)+room) }, asked, done(), c.tx)
		dying(t, func() *bench { return benchOn(t, config(), 1, lies, plenty) }, asked, c.tx)

		b := benchOn(t, config(), 1, lies, len(lies))
		b.must(failure(api.ErrFull), asked)
		b.mustCount(7, 2, true)
		b.must(done(), revoke(7, basic("web"), pairs("token", "x"))) // it takes no room
		for _, keep := range []int{0, plenty} {
			b = benchOn(t, config(), 1, lies, plenty)
			b.counts = false
			b.disk.Arm(0, keep)
			b.must(failure(api.ErrDead), asked)
			b.mustCount(7, 2, true)
			b.must(failure(api.ErrDead), asked)
			b.boot()
			b.mustCount(7, 2, keep == 0)
			b.must(done(), asked)
			b.mustCount(7, 2, false)
		}
	}
}
