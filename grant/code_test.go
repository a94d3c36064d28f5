package grant_test

import (
	"math"
	"strings"
	"testing"

	"usher/api"
)

// allowing is an Answer that allows read, of the session 1.
func allowing(now int) call {
	return answering(now, id(1), formed(id(1), question(), "decision", "allow", "grant:read", "yes"))
}

// again is an Ask of the session 1 for what was allowed.
func again(now int) call { return ask(now, id(1), with(asking(), "scope", "read")) }

// allowed is what allowing writes with the draw of that byte; again writes the second of it.
func allowed(drawn byte, now int) []api.Record {
	return []api.Record{consentRecord("ann", "app", now, "read"), codeRecord(id(drawn), "ann", "app", now, "read")}
}

// consented is a bench with the session 1, whose user has allowed app to read at the time 7, by the draw 2.
func consented(t *testing.T) *bench {
	t.Helper()
	b := newBench(t, config(), 1)
	b.allow(2, b.begin(1), question(), "read")
	return b
}

// TestOneCommit: of two records behind an Answer, of one behind an Ask, at all times that can be kept.
func TestOneCommit(t *testing.T) {
	for _, now := range []int{0, 1, 7, 104} {
		b := newBench(t, config(), 1)
		b.begin(1)
		lies := look(b.disk)
		b.push(draw(2), draw(3))
		b.must(codeBack(id(2)), allowing(now))
		b.mustHold(lies, allowed(2, now))
		lies = look(b.disk)
		b.must(codeBack(id(3)), again(now))
		b.mustHold(lies, allowed(3, now)[1:])
		if got, ok := b.store.Code(id(2)); !ok || got.Used || got.Burned || got.Redirect != address || got.Challenge != challenge || got.At != now || got.User != "ann" || got.Client != "app" {
			t.Errorf("P16.9: the store has %+v, %v", got, ok)
		}
	}
	b := newBench(t, config(), 1)
	b.beginAs("ann", api.MaxNow, 1)
	b.push(draw(2))
	b.must(codeBack(id(2)), allowing(api.MaxNow))
}

// TestDrawsOfACode: none, or one that is known as anything: nothing is written, the draw is used up.
func TestDrawsOfACode(t *testing.T) {
	for _, c := range []call{allowing(6), again(6)} {
		b := knowing(t)
		if c.name == "Ask" {
			b.commit(consentRecord("ann", "app", 5, "read"))
		}
		lies := look(b.disk)
		b.must(refusal(api.ErrDry), c)
		for known := byte(1); known <= 5; known++ {
			b.push(draw(known))
			b.must(refusal(api.ErrTaken), c)
			b.must(refusal(api.ErrDry), c)
		}
		b.mustHold(lies)
		b.push(draw(6), draw(6))
		b.must(codeBack(id(6)), c)
		b.must(refusal(api.ErrTaken), c)
	}
}

// TestCodesAtOtherTimes: a session may live at a time that cannot be kept.
func TestCodesAtOtherTimes(t *testing.T) {
	for _, now := range []int{-1, -2, math.MinInt} {
		b := consented(t)
		lies := look(b.disk)
		for _, c := range []call{allowing(now), again(now)} {
			b.push(draw(3))
			b.must(refusal(api.ErrArg), c)
			b.must(refusal(api.ErrDry), c)
			b.push(draw(1))
			b.must(refusal(api.ErrTaken), c)
		}
		b.mustHold(lies)
	}
	for _, now := range []int{api.MaxNow + 1, api.MaxNow + 99} {
		b := newBench(t, config(), 1)
		b.beginAs("ann", api.MaxNow, 1)
		b.push(draw(3))
		b.must(refusal(api.ErrArg), allowing(now))
		if len(b.store.State().Consents) != 0 {
			t.Error("P16.13: a consent without its code")
		}
	}
}

// TestCodesOnAFullDisk: a consent and its code have room, or neither.
func TestCodesOnAFullDisk(t *testing.T) {
	for _, c := range []call{allowing(8), again(8)} {
		first := consented(t)
		lies := look(first.disk)
		tx := allowed(3, 8)
		if c.name == "Ask" {
			tx = tx[1:]
		}
		size := len(frame(tx))
		for room := range size {
			b := benchOn(t, config(), 1, lies, len(lies)+room)
			b.push(draw(3))
			before := b.store.State()
			b.must(refusal(api.ErrFull), c)
			b.must(refusal(api.ErrDry), c)
			if !isSameState(before, b.store.State()) {
				t.Fatalf("P16.13: with %d bytes of room %+v became %+v", room, before, b.store.State())
			}
		}
		b := benchOn(t, config(), 1, lies, len(lies)+size)
		b.push(draw(3), draw(4))
		b.must(codeBack(id(3)), c)
		b.must(refusal(api.ErrFull), c)
	}
}

// TestAnswerThatDies: consent and code are both there, or neither.
func TestAnswerThatDies(t *testing.T) {
	dying(t, func() *bench {
		b := newBench(t, config(), 1)
		b.begin(1)
		b.push(draw(2))
		return b
	}, allowing(7), allowed(2, 7)...)
	dying(t, func() *bench {
		b := consented(t)
		b.push(draw(3))
		return b
	}, allowing(8), allowed(3, 8)...)
}

func TestAskThatDies(t *testing.T) {
	dying(t, func() *bench {
		b := consented(t)
		b.push(draw(3))
		return b
	}, again(8), allowed(3, 8)[1:]...)
}

// TestBothOrNeither says of an Answer that dies what matters: no consent without its code, no code without its consent.
func TestBothOrNeither(t *testing.T) {
	both := 0
	size := len(frame(allowed(2, 7)))
	for operation := range 2 {
		for keep := range size + 1 {
			b := newBench(t, config(), 1)
			b.begin(1)
			b.push(draw(2))
			b.counts = false
			b.disk.Arm(operation, keep)
			b.must(refusal(api.ErrDead), allowing(7))
			b.boot()
			_, consent := b.store.Consent("ann", "app")
			_, code := b.store.Code(id(2))
			if consent != code {
				t.Fatalf("P16.9: with %d bytes kept there is a consent: %v, a code: %v", keep, consent, code)
			}
			if consent {
				both++
			}
		}
	}
	if both != 2 {
		t.Errorf("P16.9: %d times both were there", both)
	}
}

// TestWhereTheBrowserIsSent: to the very address, with a query of its own or without.
func TestWhereTheBrowserIsSent(t *testing.T) {
	for _, to := range []string{
		"https://a.example", "https://a.example/", "https://A.example/cb", "https://a.example:8443/cb", "https://[2001:db8::1]/cb", "http://localhost/cb", "http://127.0.0.1:1/", "http://[::1]/?a",
		"com.example.app:/cb", "com.example.app:/cb?x=%2f", "https://a.example/cb?", "https://a.example/cb?k=1", "https://a.example/cb?k=1&", "https://a.example/cb??", "https://a.example/cb?code=x&state=y&error=z", "https://a.example/%63b?%6b",
		"https://a.example/" + strings.Repeat("p", 512-len("https://a.example/")),
	} {
		joint := "?"
		if at := strings.IndexByte(to, '?'); at >= 0 {
			joint = "&"
			if at == len(to)-1 {
				joint = ""
			}
		}
		c := config()
		c.Clients[0].Redirects = []string{"https://a.example/first", to, "https://a.example/last"}
		b := newBench(t, c, 1)
		sid := b.begin(1)
		params := with(asking(), "redirect_uri", to)
		b.must(back("invalid_scope", to+joint+"error=invalid_scope&state=s1"), ask(6, sid, with(params, "scope")))
		b.must(back("invalid_scope", to+joint+"error=invalid_scope"), ask(6, sid, with(with(params, "scope"), "state")))
		b.must(back("invalid_request", to+joint+"error=invalid_request"), ask(6, "", with(params, "state", "\n")))
		b.push(draw(2), draw(3), draw(4))
		asked := with(params, "scope", "read write")
		form := formed(sid, asked, "grant:read", "yes")
		b.must(back("access_denied", to+joint+"error=access_denied&state=s1"), answering(7, sid, and(form, "decision", "deny")))
		b.must(code(id(2), to+joint+"code="+id(2)+"&state=s1"), answering(7, sid, and(form, "decision", "allow")))
		b.must(code(id(3), to+joint+"code="+id(3)+"&state=s1"), ask(8, sid, with(params, "scope", "read")))
		b.must(code(id(4), to+joint+"code="+id(4)), ask(8, sid, with(with(params, "scope", "read"), "state")))
		if got, ok := b.store.Code(id(3)); !ok || got.Redirect != to {
			t.Errorf("P16.9: the store has %+v, %v", got, ok)
		}
	}
}

// TestStatesAreSentBack as a form writes them.
func TestStatesAreSentBack(t *testing.T) {
	b := consented(t)
	for i, c := range []struct{ state, written string }{
		{"x", "x"}, {" ", "+"}, {"+", "%2B"}, {"a&code=b", "a%26code%3Db"}, {"%", "%25"}, {"#", "%23"}, {"~-._", "~-._"}, {"/?", "%2F%3F"}, {"\"<>\\", "%22%3C%3E%5C"}, {strings.Repeat("s", 512), strings.Repeat("s", 512)}, {"code", "code"}, {"0", "0"},
	} {
		b.must(back("invalid_scope", address+"?error=invalid_scope&state="+c.written), ask(8, "", with(with(asking(), "scope"), "state", c.state)))
		fresh := byte(10 + i)
		b.push(draw(fresh))
		b.must(code(id(fresh), address+"?code="+id(fresh)+"&state="+c.written), ask(8, id(1), with(with(asking(), "scope", "read"), "state", c.state)))
	}
}
