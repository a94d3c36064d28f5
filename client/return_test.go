package client_test

import (
	"fmt"
	"strings"
	"testing"

	"usher/api"
)

// homes are redirect addresses of all forms, with queries of all kinds.
func homes() []string {
	many := "https://a/?" + strings.Repeat("a&", 40) + "b"
	return []string{home, "https://a", home + "?", home + "??", home + "?&", home + "?k=1", home + "?k&", home + "?code=k&state=" + z, home + "?code=k&state=" + z + "&", home + "?state=" + z + "&code=k", home + "?error=e", home + "?/?%3F", "com.example.app:/cb", "http://localhost:8080/?a=b", many, "https://a/" + strings.Repeat("x", 502)}
}

// begunAt is a client of that address, which has begun with the state z.
func begunAt(t *testing.T, redirect string) *bench {
	t.Helper()
	b := newBenchOf(t, "app", "", redirect, "write", "read")
	_, err := b.begin(same(0), draw(1))
	b.must(err, nil)
	return b
}

// refuses fails unless an address is refused, and nothing has changed.
func (b *bench) refuses(uri string) {
	b.t.Helper()
	failed := b.client.Failed()
	if err := b.back(uri); err != api.ErrDenied {
		b.t.Fatalf("P24.3: of %q Return(%+q) = %v", b.model.redirect, uri, err)
	}
	if b.client.Failed() != failed {
		b.t.Fatalf("P24.3: behind a refused address Failed() = %q", b.client.Failed())
	}
}

func TestOwnAnswers(t *testing.T) {
	texts := []string{"k", " ", "a &=?#%+", "+", "%6b", "\x00", "é", "\xff", everyByte(), strings.Repeat("k", 5000), "k&state=" + z, z}
	for _, redirect := range homes() {
		for _, text := range texts {
			b := begunAt(t, redirect)
			b.must(b.back(b.own("code", text, z)), nil)
			b.must(b.back(b.own("code", text, z)), api.ErrLost)
			b.must(b.back(""), api.ErrLost)
			want := formOf("grant_type", "authorization_code", "code", text, "redirect_uri", redirect, "code_verifier", letters(draw(1)), "client_id", "app")
			b.mustSend(b.redeem, want)
			b = begunAt(t, redirect)
			b.must(b.back(b.own("error", text, z)), nil)
			if got := b.client.Failed(); got != text {
				t.Errorf("P24.3: Failed() = %+q, want %+q", got, text)
			}
			b.mustLack(b.redeem)
			b.must(b.back(b.own("error", text, z)), api.ErrLost)
		}
	}
}

// TestOtherAddresses: each is refused, and behind them all the client's own is taken.
func TestOtherAddresses(t *testing.T) {
	for _, redirect := range homes() {
		b := begunAt(t, redirect)
		into := func(texts ...string) string { return answerOf(redirect, texts...) }
		head := redirect + joint(redirect)
		other := letters(draw(7))
		for _, uri := range []string{
			"", redirect, head, head + "&", into(), into("code", "k"), into("error", "e"), into("state", z), into("x", "y"),
			into("code", "k", "state", other), into("code", "k", "state", ""), into("code", "k", "state", z+"A"), into("code", "k", "state", z[1:]), into("code", "k", "state", strings.ToLower(z)),
			into("code", "", "state", z), into("error", "", "state", z), head + "code&state=" + z, head + "error&state=" + z, head + "state=" + z + "&code",
			into("state", z, "code", "k"), into("state", z, "error", "e"),
			into("code", "k", "code", "k", "state", z), into("code", "k", "state", z, "state", z), into("error", "e", "error", "e", "state", z), into("state", z, "state", z), into("code", "k", "error", "e", "state", z), into("error", "e", "code", "k", "state", z), into("code", "k", "code", "l"),
			into("code", "k", "state", z, "x", "y"), into("x", "y", "code", "k", "state", z), into("code", "k", "x", "y", "state", z), into("error", "e", "error_description", "d", "state", z), into("code", "k", "state", z, "iss", "https://usher"),
			into("Code", "k", "state", z), into("code", "k", "State", z), into("codes", "k", "state", z), into("Error", "e", "state", z), into("", "k", "state", z), into("code", "k", "", z), into("state", "k", "code", z), into("code", "k", "code", z), into("access_token", "k", "state", z),
			head + "code=%6b&state=" + z, head + "code=%2f&state=" + z, head + "code=a%20b&state=" + z, head + "code=k/&state=" + z, head + "code=k&state=%41" + z[1:], head + "c%6fde=k&state=" + z, head + "code=k&st%61te=" + z, head + "code=é&state=" + z, head + "code=%&state=" + z, head + "code=%4&state=" + z, head + "code=%zz&state=" + z, head + "code=\x00&state=" + z, head + "code=a b&state=" + z, head + "code=k=&state=" + z,
			head + "&code=k&state=" + z, head + "code=k&&state=" + z, head + "code=k&state=" + z + "&", head + "code=k&state=" + z + "#", head + "code=k&state=" + z + "#f", head + "code=k#&state=" + z, head + "code=k;state=" + z, head + "code=k&state=" + z + " ", head + "?code=k&state=" + z,
			" " + into("code", "k", "state", z), strings.ToUpper(redirect) + joint(redirect) + "code=k&state=" + z, redirect + "2" + joint(redirect) + "code=k&state=" + z, "https://b.example/cb?code=k&state=" + z, redirect + "code=k&state=" + z + "x", redirect + "#?code=k&state=" + z, redirect[1:] + joint(redirect) + "code=k&state=" + z, redirect + into("code", "k", "state", z), "code=k&state=" + z, "?code=k&state=" + z, "/cb?code=k&state=" + z,
			head + strings.Repeat("x&", 40) + "code=k&state=" + z, head + "code=k&state=" + z + strings.Repeat("&", 40) + "x",
		} {
			b.refuses(uri)
			b.mustLack(b.redeem)
		}
		b.must(b.back(into("code", "k", "state", z)), nil)
		b.mustSend(b.redeem, formOf("grant_type", "authorization_code", "code", "k", "redirect_uri", redirect, "code_verifier", letters(draw(1)), "client_id", "app"))
	}
}

// TestJoints: what stands between the address and what is put in is one byte or none, and never another.
func TestJoints(t *testing.T) {
	for _, redirect := range homes() {
		for _, between := range []string{"", "?", "&", "??", "&&", "?&", "&?", "#", ";", "/"} {
			if between == joint(redirect) {
				continue
			}
			b := begunAt(t, redirect)
			b.refuses(redirect + between + "code=k&state=" + z)
			b.refuses(redirect + between + "error=e&state=" + z)
			b.must(b.back(b.own("code", "k", z)), nil)
		}
	}
}

// TestAddressesOneByteAway holds every one against the model.
func TestAddressesOneByteAway(t *testing.T) {
	for _, redirect := range []string{"https://a", "https://a?", "a.b:/?c"} {
		for _, name := range []string{"code", "error"} {
			b := begunAt(t, redirect)
			good := b.own(name, "k %", z)
			changed(good, func(uri string) {
				want := b.model.back(uri)
				if err := b.client.Return(uri); err != want {
					t.Fatalf("P24.3: of %q Return(%+q) = %v, want %v", redirect, uri, err, want)
				}
				if want == nil {
					b = begunAt(t, redirect)
				}
			})
			b.must(b.back(good), nil)
		}
	}
}

// TestStatesOneByteAway: every byte of a state is held against the one that was begun.
func TestStatesOneByteAway(t *testing.T) {
	for _, redirect := range []string{home, home + "?code=k&state=" + z} {
		b := begunAt(t, redirect)
		for at := range z {
			for _, c := range "BC_-x9" {
				b.refuses(b.own("code", "k", z[:at]+string(c)+z[at+1:]))
				b.refuses(b.own("error", "k", z[:at]+string(c)+z[at+1:]))
			}
		}
		b.must(b.back(b.own("error", "e", z)), nil)
	}
}

// TestRefusedAddressesChangeNothing: a code, a token, a request that is out, and a failure all stay.
func TestRefusedAddressesChangeNothing(t *testing.T) {
	b := newBench(t)
	b.toToken(5, 1, giving("t", 10, "read", "r"))
	b.mustSend(b.renew, "grant_type=refresh_token&refresh_token=r&client_id=app")
	b.must(b.back(b.own("code", "k", z)), api.ErrLost)
	b.begin(same(0), draw(3))
	b.must(b.take(6, refusing(503, "down")), api.ErrDenied)
	b.mustSend(b.renew, "grant_type=refresh_token&refresh_token=r&client_id=app")
	for _, uri := range []string{b.own("code", "k", o), b.own("error", "e", o), home, ""} {
		b.refuses(uri)
	}
	b.must(b.back(b.own("code", "k", z)), nil)
	for range 3 {
		b.must(b.back(b.own("code", "other", z)), api.ErrLost)
		b.must(b.back(b.own("error", "e", z)), api.ErrLost)
	}
	if got := b.client.Failed(); got != "" {
		t.Errorf("P24.3: behind an answer with a code Failed() = %q", got)
	}
	b.must(b.take(7, giving("u", 10, "read", "")), nil)
	b.mustSend(b.redeem, formOf("grant_type", "authorization_code", "code", "k", "redirect_uri", home, "code_verifier", letters(draw(3)), "client_id", "app"))
}

// TestAReturnEndsAFailure that came of a request behind the beginning.
func TestAReturnEndsAFailure(t *testing.T) {
	for _, name := range []string{"code", "error"} {
		b := newBench(t)
		b.toCode(1, "k")
		b.redeem()
		b.begin(same(0), draw(3))
		b.must(b.take(1, refusing(400, "invalid_grant")), api.ErrDenied)
		b.refuses(home)
		b.must(b.back(b.own(name, "e", z)), nil)
		if got, want := b.client.Failed(), strings.Repeat("e", map[string]int{"error": 1}[name]); got != want {
			t.Errorf("P24.3: behind an answer with %s Failed() = %q", name, got)
		}
	}
}

// TestAnswersAreTakenOnce: each beginning has one, the same one for the same state.
func TestAnswersAreTakenOnce(t *testing.T) {
	b := newBench(t)
	for round := range 20 {
		uri := b.own("code", fmt.Sprint("k", round), z)
		b.begin(same(0), draw(round))
		b.must(b.back(uri), nil)
		b.must(b.back(uri), api.ErrLost)
		if round%2 == 0 {
			b.redeem()
			b.mustLack(b.redeem)
			b.must(b.back(uri), api.ErrLost)
		}
	}
}
