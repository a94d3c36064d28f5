package client_test

import (
	"fmt"
	"strings"
	"testing"

	"usher/api"
)

// mustBe fails unless a request is a form to that place with that body, with these fields between its type and its length.
func mustBe(t *testing.T, q api.Request, err error, place, body string, shown ...string) {
	t.Helper()
	fields := append([]string{"host", "usher", "content-type", "application/x-www-form-urlencoded"}, shown...)
	fields = append(fields, "content-length", fmt.Sprint(len(body)))
	if want := (api.Request{Method: "POST", Target: place, Minor: 1, Fields: pairs(fields...), Body: body}); !isSame(q, want) || err != nil {
		t.Errorf("Words, a form that is sent:\n%s, close %v, %v\nwant\n%s", told(q), q.Close, err, told(want))
	}
}

// TestFormsThatAreSent: each of the three, of a public client and of one that has a secret, byte by byte.
func TestFormsThatAreSent(t *testing.T) {
	const redirect = "https://a/c?x=%2f&y"
	for _, c := range []struct{ secret, tail, auth string }{
		{"", "&client_id=a%3Ab", ""},
		{"p:w d", "", "Basic YSUzQWI6cCUzQXcrZA=="}, // a%3Ab:p%3Aw+d
		{"x", "", "Basic YSUzQWI6eA=="},
	} {
		var shown []string
		if c.auth != "" {
			shown = []string{"authorization", c.auth}
		}
		b := newBenchOf(t, "a:b", c.secret, redirect, "read")
		b.begin(same(0), same(1))
		b.must(b.back(redirect+"&code=c+%26%2B%3D&state="+z), nil)
		q, err := b.redeem()
		mustBe(t, q, err, "/token", "grant_type=authorization_code&code=c+%26%2B%3D&redirect_uri=https%3A%2F%2Fa%2Fc%3Fx%3D%252f%26y&code_verifier="+o+c.tail, shown...)
		b.must(b.take(0, giving("t/ +", 10, "read", "")), nil)
		q, err = b.drop()
		mustBe(t, q, err, "/revoke", "token=t%2F+%2B"+c.tail, shown...)
		b.toToken(0, 3, giving("t", 10, "read", "r\x00é "))
		q, err = b.renew()
		mustBe(t, q, err, "/token", "grant_type=refresh_token&refresh_token=r%00%C3%A9+"+c.tail, shown...)
		q, err = b.drop()
		mustBe(t, q, err, "/revoke", "token=r%00%C3%A9+"+c.tail, shown...)
	}
}

// TestACodeIsSentOnce, whatever is answered, or nothing.
func TestACodeIsSentOnce(t *testing.T) {
	for _, r := range []api.Reply{giving("t", 10, "read", "r"), giving("t", 10, "admin", ""), refusing(400, "invalid_grant"), refusing(503, "temporarily_unavailable"), answer(0, "")} {
		b := newBench(t)
		b.mustLack(b.redeem)
		b.begin(draw(1), draw(2))
		b.mustLack(b.redeem)
		b.must(b.back(b.own("code", "k", letters(draw(1)))), nil)
		b.mustSend(b.redeem, formOf("grant_type", "authorization_code", "code", "k", "redirect_uri", home, "code_verifier", letters(draw(2)), "client_id", "app"))
		b.mustLack(b.redeem)
		b.take(1, r)
		b.mustLack(b.redeem)
		b.begin(draw(1), draw(3))
		b.mustLack(b.redeem)
		b.must(b.back(b.own("code", "k", letters(draw(1)))), nil)
		b.mustSend(b.redeem, formOf("grant_type", "authorization_code", "code", "k", "redirect_uri", home, "code_verifier", letters(draw(3)), "client_id", "app"))
		b.mustLack(b.redeem)
	}
}

// TestRedeemBehindANewBeginning: a code is dropped by one; a Redeem that is out is not.
func TestRedeemBehindANewBeginning(t *testing.T) {
	b := newBench(t)
	b.toCode(1, "k")
	b.begin(draw(3), draw(4))
	b.mustLack(b.redeem)
	b.must(b.take(1, giving("t", 10, "read", "")), api.ErrLost)
	b.toCode(5, "l")
	b.redeem()
	b.begin(draw(7), draw(8))
	b.mustLack(b.redeem)
	b.must(b.take(1, giving("t", 10, "read", "")), nil)
	b.mustHave(1, "t", "read")
	b.must(b.back(b.own("code", "m", letters(draw(7)))), nil)
	b.mustSend(b.redeem, formOf("grant_type", "authorization_code", "code", "m", "redirect_uri", home, "code_verifier", letters(draw(8)), "client_id", "app"))
}

func TestRenewAndDrop(t *testing.T) {
	without, with := newBench(t), newBench(t)
	for _, b := range []*bench{without, with} {
		b.mustLack(b.renew)
		b.mustLack(b.drop)
		b.toCode(1, "k")
		b.mustLack(b.renew)
		b.mustLack(b.drop)
	}
	without.redeem()
	without.must(without.take(5, giving("t", 10, "read", "")), nil)
	with.redeem()
	with.must(with.take(5, giving("t", 10, "read", "r")), nil)
	for range 3 {
		without.mustLack(without.renew)
		without.mustSend(without.drop, "token=t&client_id=app")
		with.mustSend(with.renew, "grant_type=refresh_token&refresh_token=r&client_id=app")
		with.mustSend(with.drop, "token=r&client_id=app")
		with.mustSend(with.renew, "grant_type=refresh_token&refresh_token=r&client_id=app")
		without.mustHave(14, "t", "read")
		with.mustHave(14, "t", "read")
	}
	// Behind the token's end, too: nobody's time goes by here but in the answers.
	without.must(without.take(100, refusing(503, "later")), api.ErrDenied)
	with.must(with.take(100, refusing(503, "later")), api.ErrDenied)
	without.mustHave(100, "", "read")
	without.mustSend(without.drop, "token=t&client_id=app")
	with.mustSend(with.drop, "token=r&client_id=app")
	with.mustSend(with.renew, "grant_type=refresh_token&refresh_token=r&client_id=app")
}

// TestATokenWithoutTime: one whose time is over at once is there still.
func TestATokenWithoutTime(t *testing.T) {
	b := newBench(t)
	b.toToken(0, 1, giving("t", 0, "read", ""))
	b.mustHave(0, "", "read")
	b.mustHave(-1, "", "read")
	b.mustSend(b.drop, "token=t&client_id=app")
}

// TestRequestsChangeNothingElse: a code that waits waits on, and what was begun too.
func TestRequestsChangeNothingElse(t *testing.T) {
	requests := func(b *bench) {
		b.mustSend(b.renew, "grant_type=refresh_token&refresh_token=r&client_id=app")
		b.mustSend(b.drop, "token=r&client_id=app")
	}
	b := newBench(t)
	b.toToken(5, 1, giving("t", 10, "read", "r"))
	b.begin(draw(3), draw(4))
	requests(b)
	b.must(b.back(b.own("code", "k", letters(draw(3)))), nil)
	requests(b)
	q, err := b.redeem()
	if !strings.Contains(q.Body, "&code=k&") || err != nil {
		t.Errorf("P24.5: behind Renew and Drop Redeem = %s, %v", told(q), err)
	}
	b.must(b.take(6, refusing(400, "e")), api.ErrDenied)
	requests(b)
	if got := b.client.Failed(); got != "e" {
		t.Errorf("P24.5: behind Renew and Drop Failed() = %q", got)
	}
}

// TestTheLastRequestIsOut: an answer is taken as that to the request that was made last.
func TestTheLastRequestIsOut(t *testing.T) {
	ready := func() *bench {
		b := newBench(t)
		b.toToken(5, 1, giving("t", 10, "read", "r"))
		b.toCode(3, "k")
		return b
	}
	none, fresh := answer(200, ""), giving("u", 10, "write", "")
	for _, first := range []string{"redeem", "renew", "drop"} {
		for _, second := range []string{"redeem", "renew", "drop"} {
			for _, r := range []api.Reply{none, fresh, refusing(400, "e")} {
				b := ready()
				requests := map[string]func() (api.Request, error){"redeem": b.redeem, "renew": b.renew, "drop": b.drop}
				_, err := requests[first]()
				b.must(err, nil)
				// A Redeem behind a Redeem is none: the first one is out still.
				_, err = requests[second]()
				b.must(err, map[bool]error{true: api.ErrLost}[first == "redeem" && second == "redeem"])
				b.take(6, r)
				b.must(b.take(6, r), api.ErrLost)
				_, hasRefresh := b.renew()
				if lost := second == "drop" && r.Status == 200 || second == "redeem" && r.Body == fresh.Body || second == "renew" && r.Status == 400; (hasRefresh != nil) != lost {
					t.Errorf("P24.6: behind %s and %s an answer %d %s: Renew = %v", first, second, r.Status, r.Body, hasRefresh)
				}
			}
		}
	}
}
