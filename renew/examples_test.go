package renew_test

import (
	"slices"
	"testing"

	"usher/api"
	"usher/field"
)

// TestExamples goes down the chapter's table. The code is 1, its token 2, its refresh token 3.
func TestExamples(t *testing.T) {
	c := config()
	c.Clients = c.Clients[:2]
	b := newBench(t, c, 1)
	b.family(1, 2, 3, "web", 5, all...)
	lies := look(b.disk)
	b.push(10, 11)
	field, form := field.BasicOf("web", "pw"), showing(id(3))

	b.must(failure(api.ErrArg), renewing(-1, "", nil))
	b.must(failure(api.ErrArg), renewing(1099511627777, field, form))
	b.must(refused("invalid_client"), renewing(9, "", nil))
	b.must(refused("invalid_request"), renewing(9, field, pairs("grant_type", "refresh_token")))
	b.must(refused("unsupported_grant_type"), renewing(9, field, pairs("grant_type", "authorization_code", "refresh_token", id(3))))
	b.must(refused("invalid_grant"), renewing(9, "", append(pairs("client_id", "app"), form...)))
	b.must(refused("invalid_grant"), renewing(1005, field, form))
	b.must(refused("invalid_scope"), renewing(9, field, and(form, "scope", "admin")))
	b.must(refused("invalid_scope"), renewing(9, field, and(form, "scope", "read  write")))
	b.mustHold(lies)

	one := benchOn(t, c, 1, lies, plenty)
	one.push(10)
	one.must(failure(api.ErrDry), renewing(9, field, form))
	one.mustHold(lies)
	if one.source.Left() != 0 {
		t.Errorf("P18.1: %d draws wait", one.source.Left())
	}

	b.must(given(id(10), id(11), "read write"), renewing(1004, field, and(form, "scope", "write read")))
	if got, ok := b.store.Refresh(id(11)); !ok || !slices.Equal(got.Scopes, all) {
		t.Errorf("P18.1: the new refresh token is %+v, %v", got, ok)
	}
	b.mustLive(1004, 3, false)
	b.mustLive(1004, 11, true)
	b.mustCount(104, 2, true)
	b.mustCount(1004, 10, true)
	b.must(refused("invalid_grant"), renewing(1004, field, form))
	if got, _ := b.store.Code(id(1)); !got.Burned {
		t.Errorf("P18.1: the code is %+v", got)
	}
	b.mustLive(1004, 11, false)
	b.mustCount(5, 2, false)
	b.mustCount(1004, 10, false)
}
