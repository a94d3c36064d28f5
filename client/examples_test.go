package client_test

import (
	"testing"

	"usher/api"
	"usher/client"
)

// The rows of the chapter's examples. z and o are those of 32 bytes 0 and 32 bytes 1.
const (
	z = "AAAAAAAAAAAAAAAAAAAAAAAAAAAAAAAAAAAAAAAAAAA"
	o = "AQEBAQEBAQEBAQEBAQEBAQEBAQEBAQEBAQEBAQEBAQE"
)

func TestExampleOfNothing(t *testing.T) {
	for _, c := range []struct {
		id, redirect string
		scopes       []string
	}{{"a b", home, []string{"read"}}, {"app", "/cb", []string{"read"}}, {"app", home, nil}} {
		if got, err := client.New(c.id, "", c.redirect, c.scopes); got != nil || err != api.ErrArg {
			t.Errorf("P24.1: New(%q, %q, %q) = %v, %v", c.id, c.redirect, c.scopes, got, err)
		}
	}
	b := newBench(t)
	b.must(b.back("https://a.example/cb?code=k&state="+z), api.ErrLost)
	b.mustLack(b.redeem)
	b.mustLack(b.renew)
	b.mustLack(b.drop)
	b.must(b.take(0, answer(200, "")), api.ErrLost)
}

func TestExampleOfAWay(t *testing.T) {
	b := newBench(t)
	target, err := b.begin(same(0), same(1)[:31])
	if target != "" || err != api.ErrArg {
		t.Errorf("P24.2: Begin = %q, %v", target, err)
	}
	want := "/authorize?client_id=app&redirect_uri=https%3A%2F%2Fa.example%2Fcb&response_type=code&scope=read+write&state=" + z + "&code_challenge=" + challengeOf(o) + "&code_challenge_method=S256"
	if target, err = b.begin(same(0), same(1)); target != want || err != nil {
		t.Errorf("P24.2: Begin = %q, %v, want %q", target, err, want)
	}
	b.must(b.back("https://a.example/cb?code=k&state="+o), api.ErrDenied)
	b.must(b.back("https://a.example/cb2?code=k&state="+z), api.ErrDenied)
	b.must(b.back("https://a.example/cb?code=k&error=x&state="+z), api.ErrDenied)
	b.must(b.back("https://a.example/cb?state="+z), api.ErrDenied)
	b.must(b.back("https://a.example/cb?state="+z+"&code=k"), api.ErrDenied)
	b.must(b.back("https://a.example/cb?code=%6b&state="+z), api.ErrDenied)
	b.must(b.back("https://a.example/cb?code=k&state="+z), nil)
	b.must(b.back("https://a.example/cb?code=k&state="+z), api.ErrLost)
	q, err := b.redeem()
	body := "grant_type=authorization_code&code=k&redirect_uri=https%3A%2F%2Fa.example%2Fcb&code_verifier=" + o + "&client_id=app"
	if want := (api.Request{Method: "POST", Target: "/token", Minor: 1, Body: body, Fields: pairs("host", "usher", "content-type", "application/x-www-form-urlencoded", "content-length", "150")}); !isSame(q, want) || err != nil {
		t.Errorf("P24.4: Redeem = %s, %v", told(q), err)
	}
	b.mustLack(b.redeem)
	b.must(b.take(5, answer(200, `{"access_token":"t","token_type":"bearer","expires_in":10,"scope":"read"}`)), nil)
	b.mustHave(14, "t", "read")
	b.mustHave(15, "", "read")
	b.mustLack(b.renew)
	b.mustSend(b.drop, "token=t&client_id=app")
	b.must(b.take(6, answer(503, `{"error":"temporarily_unavailable"}`)), api.ErrDenied)
	if got := b.client.Failed(); got != "temporarily_unavailable" {
		t.Errorf("P24.7: Failed() = %q", got)
	}
	b.mustHave(6, "t", "read")
	b.mustSend(b.drop, "token=t&client_id=app")
	b.must(b.take(6, answer(200, "")), nil)
	b.mustHave(6, "")
}
