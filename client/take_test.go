package client_test

import (
	"fmt"
	"math"
	"strings"
	"testing"

	"usher/api"
)

// redeeming is a client whose Redeem is out; it has a token and a refresh token of another code.
func redeeming(t *testing.T) *bench {
	t.Helper()
	b := newBench(t)
	b.toToken(5, 1, giving("was", 10, "write", "old"))
	b.toCode(3, "k")
	_, err := b.redeem()
	b.must(err, nil)
	return b
}

// renewing is a client whose Renew is out.
func renewing(t *testing.T) *bench {
	t.Helper()
	b := newBench(t)
	b.toToken(5, 1, giving("was", 10, "write", "old"))
	_, err := b.renew()
	b.must(err, nil)
	return b
}

// dropping is a client whose Drop is out.
func dropping(t *testing.T) *bench {
	t.Helper()
	b := newBench(t)
	b.toToken(5, 1, giving("was", 10, "write", "old"))
	_, err := b.drop()
	b.must(err, nil)
	return b
}

// asking are clients of whose requests one is out.
func asking(t *testing.T) map[string]*bench {
	t.Helper()
	return map[string]*bench{"redeem": redeeming(t), "renew": renewing(t), "drop": dropping(t)}
}

// mustBeAsItWas fails unless the token and the refresh token are those that were there.
func (b *bench) mustBeAsItWas() {
	b.t.Helper()
	b.mustHave(14, "was", "write")
	b.mustHave(15, "", "write")
	b.mustSend(b.renew, "grant_type=refresh_token&refresh_token=old&client_id=app")
}

// refusesText fails unless an answer is refused and has changed nothing, but that no request is out.
func (b *bench) refusesText(r api.Reply) {
	b.t.Helper()
	failed := b.client.Failed()
	b.must(b.take(20, r), api.ErrText)
	b.must(b.take(20, r), api.ErrLost)
	if got := b.client.Failed(); got != failed {
		b.t.Fatalf("P24.6: behind ErrText Failed() = %q, want %q", got, failed)
	}
	b.mustBeAsItWas()
}

// TestNoRequestIsOut: at first, and behind every answer, whatever it is.
func TestNoRequestIsOut(t *testing.T) {
	list := []api.Reply{{}, giving("t", 10, "read", "r"), refusing(400, "e"), answer(200, ""), answer(400, "")}
	for _, r := range list {
		b := newBench(t)
		b.must(b.take(0, r), api.ErrLost)
		b.begin(draw(1), draw(2))
		b.must(b.take(0, r), api.ErrLost)
		b.must(b.back(b.own("code", "k", letters(draw(1)))), nil)
		b.must(b.take(0, r), api.ErrLost)
		b.mustHave(0, "")
		for _, first := range list {
			for of, b := range asking(t) {
				b.take(20, first)
				if err := b.take(20, r); err != api.ErrLost {
					t.Errorf("P24.6: behind %s a second answer: %v", of, err)
				}
			}
		}
	}
}

// parts are the members of a token's object, in their order.
func parts() []string {
	return []string{`"access_token":"t"`, `"token_type":"Bearer"`, `"expires_in":10`, `"refresh_token":"r"`, `"scope":"read"`}
}

func joined(list []string) api.Reply { return answer(200, "{"+strings.Join(list, ",")+"}") }

// with is a token's object in which that member is another.
func with(at int, member string) api.Reply {
	list := parts()
	list[at] = member
	return joined(list)
}

// without is one in which it is missing.
func without(at int) api.Reply { return joined(append(parts()[:at], parts()[at+1:]...)) }

// takesToken fails unless that is taken as a token's answer, both behind a Redeem and behind a Renew.
func takesToken(t *testing.T, r api.Reply) {
	t.Helper()
	for of, b := range map[string]*bench{"redeem": redeeming(t), "renew": renewing(t)} {
		if err := b.take(20, r); err != nil {
			t.Errorf("P24.6: behind %s %+q is refused: %v", of, r.Body, err)
		}
	}
}

func refusesToken(t *testing.T, r api.Reply) {
	t.Helper()
	redeeming(t).refusesText(r)
	renewing(t).refusesText(r)
}

func TestMembersOfAToken(t *testing.T) {
	good := [][]string{
		{`"access_token":" "`, `"access_token":"\u0000"`, `"access_token":"é"`, `"acces\u0073_token":"t"`, `"access_token":"` + strings.Repeat("t", 1<<12) + `"`},
		{`"token_type":"bearer"`, `"token_type":"BEARER"`, `"token_type":"bEaReR"`, `"token_type":"B\u0065arer"`},
		{`"expires_in":0`, `"expires_in":-0`, `"expires_in":1`, `"expires_in":1073741823`, `"expires_in":1073741824`},
		{`"refresh_token":" "`, `"refresh_token":"t"`, `"refresh":""`, `"Refresh_token":""`, `"refresh_token ":0`},
		{`"scope":"write"`, `"scope":"read write"`, `"scope":"write read"`, `"scope":"read read"`, `"scope":"write read write"`},
	}
	bad := [][]string{
		{`"access_token":""`, `"access_token":1`, `"access_token":true`, `"Access_token":"t"`, `"access_token ":"t"`, `"token":"t"`},
		{`"token_type":""`, `"token_type":"mac"`, `"token_type":" Bearer"`, `"token_type":"Bearer "`, `"token_type":"Beare"`, `"token_type":"Bearers"`, `"token_type":"B\u00e9arer"`, `"token_type":"\uff22earer"`, `"token_type":1`, `"token_type":true`, `"type":"Bearer"`},
		{`"expires_in":-1`, `"expires_in":1073741825`, `"expires_in":9223372036854775807`, `"expires_in":-9223372036854775808`, `"expires_in":"10"`, `"expires_in":""`, `"expires_in":true`, `"expires":10`},
		{`"refresh_token":""`, `"refresh_token":0`, `"refresh_token":7`, `"refresh_token":true`, `"refresh_token":false`, `"refresh_tok\u0065n":""`},
		{`"scope":""`, `"scope":" "`, `"scope":"read "`, `"scope":" read"`, `"scope":"read  write"`, `"scope":"read\twrite"`, `"scope":"admin"`, `"scope":"read admin"`, `"scope":"Read"`, `"scope":"rea"`, `"scope":"readwrite"`, `"scope":"read,write"`, `"scope":"\""`, `"scope":1`, `"scope":true`, `"scopes":"read"`},
	}
	for at := range parts() {
		for _, member := range good[at] {
			takesToken(t, with(at, member))
		}
		for _, member := range bad[at] {
			refusesToken(t, with(at, member))
		}
		list := parts()
		for _, again := range []string{list[at], strings.Replace(list[at], "_", `\u005f`, 1)} {
			refusesToken(t, joined(append(parts(), again)))
			refusesToken(t, joined(append([]string{again}, list...)))
		}
		if at != 3 {
			refusesToken(t, without(at))
		}
	}
	takesToken(t, without(3))
	// What each member says, the others being at their places or not.
	for _, other := range []string{`"id_token":""`, `"x":1`, `"x":false`, `"":""`, `"error":"e"`, `"error":""`, `"state":"s"`} {
		takesToken(t, joined(append(parts(), other)))
		takesToken(t, joined(append([]string{other}, parts()...)))
	}
}

// TestTwoFaultsOfAToken: no member makes good what another one lacks.
func TestTwoFaultsOfAToken(t *testing.T) {
	bad := []string{`"access_token":""`, `"token_type":"mac"`, `"expires_in":-1`, `"refresh_token":""`, `"scope":"admin"`}
	for one := range bad {
		for other := range bad {
			list := parts()
			list[one], list[other] = bad[one], bad[other]
			refusesToken(t, joined(list))
		}
	}
}

// TestTypesOfTokens: each of the letters may be large or small, and no other byte stands for one.
func TestTypesOfTokens(t *testing.T) {
	for bits := range 1 << 6 {
		name := []byte("bearer")
		for i := range name {
			if bits>>i&1 == 1 {
				name[i] -= 'a' - 'A'
			}
		}
		takesToken(t, with(1, `"token_type":"`+string(name)+`"`))
	}
	changed("Bearer", func(s string) {
		redeeming(t).take(1, answer(200, `{"access_token":"t","token_type":"`+s+`","expires_in":1,"scope":"read"}`))
	})
}

// TestScopesOfTokens: just those among the wishes, up to as many as these are.
func TestScopesOfTokens(t *testing.T) {
	sixteen := strings.Split("abcdefghijklmnop", "")
	all := strings.Join(sixteen, " ")
	for scope, good := range map[string]bool{all: true, "p o n m l k j i h g f e d c b a": true, all + " a": true, all + " q": false, "q": false, "a": true, "p": true, "a q": false, "A": false, "ab": false, "a b": true} {
		b := newBenchOf(t, "app", "", home, sixteen...)
		b.toCode(1, "k")
		b.redeem()
		if err := b.take(1, giving("t", 10, scope, "")); (err == nil) != good {
			t.Errorf("P24.6: the scopes %q: %v", scope, err)
		}
	}
}

// TestObjects: what jsonobj.Read reads, in any spelling; what it refuses holds nothing.
func TestObjects(t *testing.T) {
	body := giving("t", 10, "read", "r").Body
	many := func(count int) string {
		list := parts()
		for i := len(list); i < count; i++ {
			list = append(list, fmt.Sprintf(`"x%d":%d`, i, i))
		}
		return "{" + strings.Join(list, ",") + "}"
	}
	for _, s := range []string{" \r\n\t" + body + " \n", strings.NewReplacer(":", " : ", ",", "\n,\t").Replace(body), many(5), many(31), many(32), `{"access_token":"\ud83d\ude00","token_type":"\u0042earer","expires_in":10,"scope":"\u0072ead"}`} {
		takesToken(t, answer(200, s))
	}
	for _, s := range []string{"", "{}", "[]", "null", `"t"`, "x", body + "x", body + body, body[1:], body[:len(body)-1], "\ufeff" + body, "\x00" + body, many(33), strings.Replace(body, "10", "1e1", 1), strings.Replace(body, "10", "10.0", 1), strings.Replace(body, "10", "010", 1), strings.Replace(body, "10", "null", 1), strings.Replace(body, "10", "+10", 1), strings.Replace(body, `"t"`, "\"\xff\"", 1), strings.Replace(body, `"t"`, `"\ud83d"`, 1), strings.Replace(body, `"t"`, `["t"]`, 1), strings.Replace(body, `"`, `'`, -1), formOf("access_token", "t", "token_type", "bearer", "expires_in", "10", "scope", "read"), strings.Replace(body, "}", `,"x":null}`, 1), strings.Replace(body, "}", `,"x":1,"x":1}`, 1), strings.Replace(body, "}", `,"x":9223372036854775808}`, 1), strings.Replace(body, "}", `,}`, 1), strings.Replace(body, "}", `,"x":{}}`, 1)} {
		refusesToken(t, answer(200, s))
	}
}

// TestObjectsOneByteAway holds every one against the model, of a token and of an error.
func TestObjectsOneByteAway(t *testing.T) {
	takes := func(status int, body string) {
		b := renewing(t)
		changed(body, func(s string) {
			if len(b.model.past) > 50 { // it looks back in all of them
				b = renewing(t)
			}
			b.renew()
			b.take(20, answer(status, s))
		})
	}
	takes(200, `{"access_token":"t","token_type":"bearer","expires_in":10,"scope":"read"}`)
	takes(200, `{"refresh_token":"r","scope":"read","expires_in":1,"token_type":"bearer","access_token":"t"}`)
	takes(503, `{"error":"e"}`)
}

// TestFieldsAreNotLookedAt: neither those of an answer nor whether it closes.
func TestFieldsAreNotLookedAt(t *testing.T) {
	for _, fields := range [][]api.Pair{nil, pairs("Content-Type", "text/html"), pairs("Content-Type", "application/json", "Content-Length", "3"), pairs("", "", "Location", "/", "error", "e")} {
		r := giving("t", 10, "read", "r")
		r.Fields, r.Close = fields, true
		takesToken(t, r)
		b := dropping(t)
		b.must(b.take(20, api.Reply{Status: 200, Fields: fields}), nil)
		b.mustHave(0, "")
		b = renewing(t)
		b.must(b.take(20, api.Reply{Status: 400, Fields: fields, Body: `{"error":"e"}`}), api.ErrDenied)
	}
}

// TestWhatATokenLeadsTo: the token, its end and its scopes; the refresh token; no failure.
func TestWhatATokenLeadsTo(t *testing.T) {
	failing := func(b *bench, again func() (api.Request, error)) *bench {
		b.must(b.take(19, refusing(503, "later")), api.ErrDenied)
		again()
		return b
	}
	for of, ready := range map[string]func() *bench{
		"redeem": func() *bench { return redeeming(t) },
		"renew":  func() *bench { return renewing(t) },
		"renew behind a failure": func() *bench {
			b := renewing(t)
			return failing(b, b.renew)
		},
	} {
		b := ready()
		b.must(b.take(20, giving("t", 10, "write read", "new")), nil)
		b.mustHave(29, "t", "read", "write")
		b.mustHave(30, "", "read", "write")
		b.mustSend(b.renew, "grant_type=refresh_token&refresh_token=new&client_id=app")
		if got := b.client.Failed(); got != "" {
			t.Errorf("P24.6: behind a token Failed() = %q", got)
		}
		b = ready()
		b.must(b.take(20, giving("t", 10, "read", "")), nil)
		b.mustHave(29, "t", "read")
		if of == "redeem" {
			b.mustLack(b.renew)
			b.mustSend(b.drop, "token=t&client_id=app")
		} else {
			b.mustSend(b.renew, "grant_type=refresh_token&refresh_token=old&client_id=app")
			b.mustSend(b.drop, "token=old&client_id=app")
		}
	}
}

// TestTimesOfAnswers: a time counts as the nearest one that is.
func TestTimesOfAnswers(t *testing.T) {
	for _, now := range []int{math.MinInt, -100, -1, 0, 1, 50, last - 1, last, last + 1, last + 100, math.MaxInt} {
		for _, life := range []int{0, 1, 2, 60, 1 << 30} {
			b := renewing(t)
			b.must(b.take(now, giving("t", life, "read", "")), nil)
			end := nearest(now) + life
			b.lookAt(end-2, end-1, end, end+1, math.MinInt, -1, 0, last, math.MaxInt)
			if _, ok := b.client.Token(math.MaxInt); ok != (end > last) {
				t.Errorf("P24.7: of a token of %d for %d Token(MaxInt) = %v", now, life, ok)
			}
		}
	}
}

// TestDropped: a 200 ends all, whatever its body is.
func TestDropped(t *testing.T) {
	for _, body := range []string{"", "{}", "x", `{"error":"e"}`, giving("t", 10, "read", "r").Body} {
		b := dropping(t)
		b.must(b.take(20, refusing(500, "e")), api.ErrDenied)
		b.drop()
		b.must(b.take(6, answer(200, body)), nil)
		b.mustHave(6, "")
		b.mustLack(b.renew)
		b.mustLack(b.drop)
		if got := b.client.Failed(); got != "" {
			t.Errorf("P24.6: behind a Drop Failed() = %q", got)
		}
	}
	// What else waits stays: a code, what was begun.
	b := dropping(t)
	b.toCode(5, "k")
	b.must(b.take(6, answer(200, "")), nil)
	b.mustSend(b.redeem, formOf("grant_type", "authorization_code", "code", "k", "redirect_uri", home, "code_verifier", letters(draw(6)), "client_id", "app"))
	b = dropping(t)
	b.begin(draw(5), draw(6))
	b.must(b.take(6, answer(200, "")), nil)
	b.must(b.back(b.own("code", "k", letters(draw(5)))), nil)
}

var statuses = []int{math.MinInt, -200, -1, 0, 1, 100, 199, 201, 204, 299, 302, 399, 400, 401, 403, 404, 429, 500, 503, 1000, 200 + 1<<32, 400 + 1<<32, math.MaxInt}

// TestOtherStatuses: each other one than 200 names an error, or cannot be read; only 400 behind a Renew ends the refresh token.
func TestOtherStatuses(t *testing.T) {
	for _, status := range statuses {
		for _, body := range []string{"", "{}", "x", `{"error":""}`, `{"error":1}`, `{"error":true}`, `{"Error":"e"}`, `{"errors":"e"}`, `{"error":"e","error":"e"}`, `{"error":"e"`, `{"error":null}`, giving("t", 10, "read", "r").Body} {
			for _, b := range asking(t) {
				b.refusesText(answer(status, body))
			}
		}
		for _, reason := range []string{"e", "invalid_grant", "temporarily_unavailable", " ", "é\x00"} {
			for of, b := range asking(t) {
				b.must(b.take(20, refusing(status, reason)), api.ErrDenied)
				if got := b.client.Failed(); got != reason {
					t.Errorf("P24.6: behind %s Failed() = %+q, want %+q", of, got, reason)
				}
				b.must(b.take(20, refusing(status, reason)), api.ErrLost)
				if of == "renew" && status == 400 {
					b.mustHave(14, "was", "write")
					b.mustLack(b.renew)
					b.mustSend(b.drop, "token=was&client_id=app")
				} else {
					b.mustBeAsItWas()
				}
			}
		}
		b := renewing(t)
		b.must(b.take(20, answer(status, ` { "error_description" : "d" , "error" : "\u0065" } `)), api.ErrDenied)
		if got := b.client.Failed(); got != "e" {
			t.Errorf("P24.6: Failed() = %q", got)
		}
	}
}

// TestTextsThatCannotBeReadChangeNothing: a failure stays, too.
func TestTextsThatCannotBeReadChangeNothing(t *testing.T) {
	for _, r := range []api.Reply{answer(200, ""), answer(200, "{}"), giving("t", 10, "admin", "r"), answer(400, ""), answer(400, `{"error":""}`), answer(503, "x")} {
		b := renewing(t)
		b.must(b.take(20, refusing(503, "earlier")), api.ErrDenied)
		b.renew()
		b.refusesText(r)
		b = redeeming(t)
		b.toCode(7, "k")
		b.refusesText(r)
		b.mustSend(b.redeem, formOf("grant_type", "authorization_code", "code", "k", "redirect_uri", home, "code_verifier", letters(draw(8)), "client_id", "app"))
	}
}

// TestAFailureIsTheLastOne: each takes the place of the one ahead of it.
func TestAFailureIsTheLastOne(t *testing.T) {
	b := renewing(t)
	for _, reason := range []string{"one", "two", "three"} {
		b.must(b.take(20, refusing(503, reason)), api.ErrDenied)
		if got := b.client.Failed(); got != reason {
			t.Errorf("P24.7: Failed() = %q, want %q", got, reason)
		}
		b.renew()
		if got := b.client.Failed(); got != reason {
			t.Errorf("P24.5: behind a Renew Failed() = %q, want %q", got, reason)
		}
	}
}
